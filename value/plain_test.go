package value_test

import (
	"encoding/binary"
	"fmt"
	"math/big"
	"regexp"
	"slices"
	"strconv"

	"sluicegate/api"
)

// This file reads the chapter plainly: which kinds types have, which values may be, what bytes and what texts they have, what is told of bytes and of texts.

// isKnown tells the known types by where they stand.
func isKnown(t byte) bool {
	return t <= 13 || t == 15 || t == 16 || t >= 245
}

// plainSize is how many bytes the numbers, the floats and the doubles have, by the types' numbers.
func plainSize(t byte) int {
	if t > 13 {
		return 0
	}
	return []int{0, 1, 2, 4, 4, 8, 0, 0, 8, 4, 0, 0, 0, 2}[t]
}

// plainKind tells the kinds by the types' numbers.
func plainKind(t api.Typed) int {
	if !isKnown(t.Type) {
		return -1
	}
	if t.Type > 13 {
		return 7
	}
	kind := []int{7, 1, 1, 1, 3, 4, 0, 5, 1, 1, 5, 6, 5, 1}[t.Type]
	if kind == 1 && t.Unsigned {
		return 2
	}
	return kind
}

// bounds are the least and the greatest number of a type.
func bounds(t api.Typed) (least, most *big.Int) {
	one := big.NewInt(1)
	bits := uint(8 * plainSize(t.Type))
	if t.Unsigned {
		return big.NewInt(0), new(big.Int).Sub(new(big.Int).Lsh(one, bits), one)
	}
	half := new(big.Int).Lsh(one, bits-1)
	return new(big.Int).Neg(half), new(big.Int).Sub(half, one)
}

func inBounds(x *big.Int, t api.Typed) bool {
	least, most := bounds(t)
	return x.Cmp(least) >= 0 && x.Cmp(most) <= 0
}

// owns is v with the fields alone that its kind has.
func owns(v api.Value) api.Value {
	own := api.Value{Kind: v.Kind}
	switch v.Kind {
	case 1:
		own.Int = v.Int
	case 2, 3, 4:
		own.Bits = v.Bits
	case 5, 6:
		own.When = v.When
	case 7:
		own.Text = v.Text
	}
	return own
}

func plainMayBe(v api.Value, t api.Typed) bool {
	if !isKnown(t.Type) || owns(v) != v {
		return false
	}
	if v.Kind == 0 {
		return true
	}
	if v.Kind != plainKind(t) {
		return false
	}
	switch v.Kind {
	case 1:
		return inBounds(big.NewInt(v.Int), t)
	case 2:
		return inBounds(new(big.Int).SetUint64(v.Bits), t)
	case 3:
		return v.Bits < 1<<32
	case 5:
		return whenMayBe(v.When, []int{9999, 12, 31}, t.Type != 10) && !v.When.Neg
	case 6:
		return whenMayBe(v.When, []int{0, 0, 34}, true) && v.When != api.When{Neg: true}
	}
	return len(v.Text) <= 16_777_216
}

// whenMayBe tells it by the greatest year, month and day.
func whenMayBe(w api.When, most []int, clock bool) bool {
	if clock {
		most = append(slices.Clone(most), 23, 59, 59, 999_999)
	} else {
		most = append(slices.Clone(most), 0, 0, 0, 0)
	}
	for i, x := range []int{w.Year, w.Month, w.Day, w.Hour, w.Minute, w.Second, w.Micro} {
		if x < 0 || x > most[i] {
			return false
		}
	}
	return true
}

func join(parts ...[]byte) []byte {
	return slices.Concat(parts...)
}

// forms are a number's counted forms, as many as it fits, the shortest first.
func forms(x uint64) [][]byte {
	full := binary.LittleEndian.AppendUint64(nil, x)
	var l [][]byte
	if x <= 250 {
		l = append(l, full[:1])
	}
	if x < 1<<16 {
		l = append(l, join([]byte{252}, full[:2]))
	}
	if x < 1<<24 {
		l = append(l, join([]byte{253}, full[:3]))
	}
	return append(l, join([]byte{254}, full))
}

// longDate are all of a date's bytes, as many as it may have, without the first one.
func longDate(w api.When) []byte {
	return join(binary.LittleEndian.AppendUint16(nil, uint16(w.Year)), []byte{byte(w.Month), byte(w.Day)}, longClock(w))
}

// longTime are all of a time's bytes, likewise.
func longTime(w api.When) []byte {
	sign := []byte{0}
	if w.Neg {
		sign = []byte{1}
	}
	return join(sign, binary.LittleEndian.AppendUint32(nil, uint32(w.Day)), longClock(w))
}

func longClock(w api.When) []byte {
	return binary.LittleEndian.AppendUint32([]byte{byte(w.Hour), byte(w.Minute), byte(w.Second)}, uint32(w.Micro))
}

// whenForms are a date's or a time's bytes, the shortest first: each leaves out zeros alone.
func whenForms(all []byte, lengths ...int) [][]byte {
	var l [][]byte
	for _, n := range lengths {
		if !slices.ContainsFunc(all[n:], func(x byte) bool { return x != 0 }) {
			l = append(l, join([]byte{byte(n)}, all[:n]))
		}
	}
	return l
}

// plainForms are all the bytes that a value has, the first being those that are appended.
func plainForms(v api.Value, t api.Typed) [][]byte {
	switch v.Kind {
	case 1:
		return [][]byte{binary.LittleEndian.AppendUint64(nil, uint64(v.Int))[:plainSize(t.Type)]}
	case 2, 3, 4:
		return [][]byte{binary.LittleEndian.AppendUint64(nil, v.Bits)[:plainSize(t.Type)]}
	case 5:
		return whenForms(longDate(v.When), 0, 4, 7, 11)
	case 6:
		return whenForms(longTime(v.When), 0, 8, 12)
	case 7:
		l := forms(uint64(len(v.Text)))
		for i, count := range l {
			l[i] = join(count, []byte(v.Text))
		}
		return l
	}
	return [][]byte{nil}
}

func plainBytes(v api.Value, t api.Typed) []byte {
	return plainForms(v, t)[0]
}

func plainAppend(b []byte, v api.Value, t api.Typed) ([]byte, api.Errno) {
	if !plainMayBe(v, t) || v.Kind == 0 && t.Type != 6 {
		return nil, api.ErrArg
	}
	return join(b, plainBytes(v, t)), api.OK
}

// plainRead tells how many bytes there must be, whether they are there, and whether what they say may be.
func plainRead(b []byte, t api.Typed) (api.Value, int, api.Errno) {
	kind := plainKind(t)
	if kind < 0 {
		return api.Value{}, 0, api.ErrArg
	}
	n, e := plainLength(b, t)
	if e != api.OK {
		return api.Value{}, 0, e
	}
	if n > len(b) {
		return api.Value{}, 0, api.ErrShort
	}
	v := api.Value{Kind: kind}
	switch kind {
	case 1, 2, 3, 4:
		v = plainNumber(b[:n], kind)
	case 5, 6:
		if kind == 6 && n > 1 && b[1] > 1 {
			return api.Value{}, 0, api.ErrBad
		}
		v.When = plainWhen(b[1:n], kind)
	case 7:
		count, e := plainCount(b)
		if e != api.OK || n-count > 16_777_216 {
			return api.Value{}, 0, api.ErrBad
		}
		v.Text = string(b[count:n])
	}
	if !plainMayBe(v, t) {
		return api.Value{}, 0, api.ErrBad
	}
	return v, n, api.OK
}

// plainLength is how many bytes a value has, as its first ones say.
func plainLength(b []byte, t api.Typed) (int, api.Errno) {
	switch kind := plainKind(t); {
	case kind == 0:
		return 0, api.OK
	case kind < 5:
		return plainSize(t.Type), api.OK
	case len(b) == 0:
		return 0, api.ErrShort
	case kind == 7:
		return plainTextLength(b)
	case kind == 5 && !slices.Contains([]byte{0, 4, 7, 11}, b[0]), kind == 6 && !slices.Contains([]byte{0, 8, 12}, b[0]):
		return 0, api.ErrBad
	}
	return 1 + int(b[0]), api.OK
}

// plainCount is how many bytes a text's count has.
func plainCount(b []byte) (int, api.Errno) {
	size := 1
	switch b[0] {
	case 251, 255:
		return 0, api.ErrBad
	case 252:
		size = 3
	case 253:
		size = 4
	case 254:
		size = 9
	}
	if len(b) < size {
		return 0, api.ErrShort
	}
	return size, api.OK
}

func plainTextLength(b []byte) (int, api.Errno) {
	size, e := plainCount(b)
	if e != api.OK {
		return 0, e
	}
	count := uint64(b[0])
	if size > 1 {
		var full [8]byte
		copy(full[:], b[1:size])
		count = binary.LittleEndian.Uint64(full[:])
	}
	if count > uint64(len(b)-size) {
		return 0, api.ErrShort
	}
	return size + int(count), api.OK
}

func plainNumber(b []byte, kind int) api.Value {
	x := new(big.Int)
	for i, digit := range b {
		x.Add(x, new(big.Int).Lsh(big.NewInt(int64(digit)), uint(8*i)))
	}
	if kind != 1 {
		return api.Value{Kind: kind, Bits: x.Uint64()}
	}
	if b[len(b)-1] >= 128 {
		x.Sub(x, new(big.Int).Lsh(big.NewInt(1), uint(8*len(b))))
	}
	return api.Value{Kind: kind, Int: x.Int64()}
}

func plainWhen(b []byte, kind int) api.When {
	f := append(slices.Clone(b), make([]byte, 12)...)
	le := binary.LittleEndian
	w := api.When{}
	if kind == 5 {
		w.Year, w.Month, w.Day = int(le.Uint16(f)), int(f[2]), int(f[3])
		f = f[4:]
	} else {
		w.Neg, w.Day = f[0] == 1, int(le.Uint32(f[1:]))
		f = f[5:]
	}
	w.Hour, w.Minute, w.Second, w.Micro = int(f[0]), int(f[1]), int(f[2]), int(le.Uint32(f[3:]))
	return w
}

func plainText(v api.Value, t api.Typed) (string, api.Errno) {
	if !plainMayBe(v, t) {
		return "", api.ErrArg
	}
	w := v.When
	behind := fmt.Sprintf(":%02d:%02d", w.Minute, w.Second)
	if w.Micro != 0 {
		behind += fmt.Sprintf(".%06d", w.Micro)
	}
	switch v.Kind {
	case 1:
		return fmt.Sprint(v.Int), api.OK
	case 2:
		return fmt.Sprint(v.Bits), api.OK
	case 5:
		s := fmt.Sprintf("%04d-%02d-%02d", w.Year, w.Month, w.Day)
		if t.Type != 10 {
			s += fmt.Sprintf(" %02d", w.Hour) + behind
		}
		return s, api.OK
	case 6:
		sign := map[bool]string{true: "-"}[w.Neg]
		return fmt.Sprintf("%s%02d", sign, 24*w.Day+w.Hour) + behind, api.OK
	case 7:
		return v.Text, api.OK
	}
	return "", api.ErrArg
}

var (
	numberForm = regexp.MustCompile(`\A(0|-?[1-9][0-9]*)\z`)
	dayForm    = regexp.MustCompile(`\A([0-9]{4})-([0-9]{2})-([0-9]{2})\z`)
	momentForm = regexp.MustCompile(`\A([0-9]{4})-([0-9]{2})-([0-9]{2}) ([0-9]{2}):([0-9]{2}):([0-9]{2})(\.[0-9]{6})?\z`)
	spanForm   = regexp.MustCompile(`\A(-?)([0-9]{2}|[1-9][0-9]{2,}):([0-9]{2}):([0-9]{2})(\.[0-9]{6})?\z`)
)

// plainOf tells by forms of texts what a text says, and then whether that may be.
func plainOf(s string, t api.Typed) (api.Value, api.Errno) {
	v, ok := api.Value{Kind: plainKind(t)}, false
	switch v.Kind {
	case -1, 0, 3, 4:
		return api.Value{}, api.ErrArg
	case 1, 2:
		v, ok = plainOfNumber(s, t)
	case 5:
		form := momentForm
		if t.Type == 10 {
			form = dayForm
		}
		v.When, ok = plainOfDate(form.FindStringSubmatch(s))
	case 6:
		v.When, ok = plainOfTime(spanForm.FindStringSubmatch(s))
	case 7:
		v.Text, ok = s, true
	}
	if !ok || !plainMayBe(v, t) {
		return api.Value{}, api.ErrBad
	}
	return v, api.OK
}

func plainOfNumber(s string, t api.Typed) (api.Value, bool) {
	v := api.Value{Kind: plainKind(t)}
	if !numberForm.MatchString(s) || len(s) > 30 {
		return v, false
	}
	x, _ := new(big.Int).SetString(s, 10)
	if !inBounds(x, t) {
		return v, false
	}
	if t.Unsigned {
		v.Bits = x.Uint64()
	} else {
		v.Int = x.Int64()
	}
	return v, true
}

func plainOfDate(found []string) (w api.When, ok bool) {
	if found == nil {
		return w, false
	}
	w = api.When{Year: whole(found[1]), Month: whole(found[2]), Day: whole(found[3])}
	if len(found) > 4 {
		w.Hour, w.Minute, w.Second = whole(found[4]), whole(found[5]), whole(found[6])
		w.Micro, ok = plainMicro(found[7])
		return w, ok
	}
	return w, true
}

func plainOfTime(found []string) (w api.When, ok bool) {
	if found == nil || len(found[2]) > 9 {
		return w, false
	}
	hours := whole(found[2])
	w = api.When{Neg: found[1] == "-", Day: hours / 24, Hour: hours % 24, Minute: whole(found[3]), Second: whole(found[4])}
	w.Micro, ok = plainMicro(found[5])
	return w, ok
}

// plainMicro is nothing, or a point and six digits that are not all 0.
func plainMicro(s string) (int, bool) {
	if s == "" {
		return 0, true
	}
	x := whole(s[1:])
	return x, x != 0
}

// whole is the number of some digits.
func whole(s string) int {
	x, err := strconv.Atoi(s)
	if err != nil {
		panic(err)
	}
	return x
}
