package value_test

import (
	"bytes"
	"fmt"
	"math"
	"math/rand"
	"strings"

	"sluicegate/api"
)

func typed(t byte) api.Typed {
	return api.Typed{Type: t}
}

func unsigned(t byte) api.Typed {
	return api.Typed{Type: t, Unsigned: true}
}

func integer(x int64) api.Value {
	return api.Value{Kind: api.ValueInt, Int: x}
}

func natural(x uint64) api.Value {
	return api.Value{Kind: api.ValueUint, Bits: x}
}

func float(x uint64) api.Value {
	return api.Value{Kind: api.ValueFloat, Bits: x}
}

func double(x uint64) api.Value {
	return api.Value{Kind: api.ValueDouble, Bits: x}
}

func text(s string) api.Value {
	return api.Value{Kind: api.ValueText, Text: s}
}

// date is one of as many of its fields as are given, from the year on.
func date(l ...int) api.Value {
	w := api.When{}
	for i, x := range l {
		*fieldOf(&w, i) = x
	}
	return api.Value{Kind: api.ValueDate, When: w}
}

// span is a time of as many of its fields as are given, from the day on.
func span(l ...int) api.Value {
	v := date(append([]int{0, 0}, l...)...)
	v.Kind = api.ValueTime
	return v
}

func negative(v api.Value) api.Value {
	v.When.Neg = true
	return v
}

// fieldOf is a moment's i-th field, from the year on.
func fieldOf(w *api.When, i int) *int {
	switch i {
	case 0:
		return &w.Year
	case 1:
		return &w.Month
	case 2:
		return &w.Day
	case 3:
		return &w.Hour
	case 4:
		return &w.Minute
	case 5:
		return &w.Second
	}
	return &w.Micro
}

func withField(v api.Value, i, x int) api.Value {
	*fieldOf(&v.When, i) = x
	return v
}

// allTypes are all 512.
func allTypes() []api.Typed {
	var l []api.Typed
	for t := range 256 {
		l = append(l, typed(byte(t)), unsigned(byte(t)))
	}
	return l
}

func knownTypes() []api.Typed {
	var l []api.Typed
	for _, t := range allTypes() {
		if isKnown(t.Type) {
			l = append(l, t)
		}
	}
	return l
}

// fewTypes are one for each kind and each size.
func fewTypes() []api.Typed {
	l := []api.Typed{typed(api.TypeNull), typed(api.TypeFloat), typed(api.TypeDouble), typed(api.TypeDate), typed(api.TypeDateTime), typed(api.TypeTime), typed(api.TypeVarString)}
	for _, t := range []byte{api.TypeTiny, api.TypeShort, api.TypeLong, api.TypeLongLong} {
		l = append(l, typed(t), unsigned(t))
	}
	return l
}

// whenEdges are each field's least and greatest, and one beyond both, around some moments.
func whenEdges() []api.When {
	var l []api.When
	for _, w := range []api.When{{}, {Neg: true}, {Day: 1}, {Micro: 1}, {Year: 2026, Month: 11, Day: 15}, {Day: 34, Hour: 23, Minute: 59, Second: 59, Micro: 999_999},
		{Year: 9999, Month: 12, Day: 31, Hour: 23, Minute: 59, Second: 59, Micro: 999_999}, {Neg: true, Day: 1, Hour: 2, Minute: 3, Second: 4, Micro: 5}} {
		l = append(l, w)
		for i := range 7 {
			for _, x := range []int{-1, 0, 1, 9, 10, 12, 13, 23, 24, 31, 32, 34, 35, 59, 60, 99, 100, 255, 256, 9999, 10_000, 65_535, 65_536, 999_999, 1_000_000, math.MaxInt32, math.MinInt32, 1 << 32, math.MaxInt64, math.MinInt64} {
				other := w
				*fieldOf(&other, i) = x
				l = append(l, other)
			}
		}
	}
	return l
}

// numberEdges are around all powers of 2, as bits.
func numberEdges() []uint64 {
	l := []uint64{0, 1, 2, 9, 10, 99, 100, 0x0807060504030201, 0xf8f7f6f5f4f3f2f1}
	for i := range 64 {
		x := uint64(1) << i
		l = append(l, x-1, x, x+1, -x-1, -x, -x+1)
	}
	return l
}

// shortTexts are few texts, of no bytes and of all sizes of counts up to three bytes.
func shortTexts() []string {
	return []string{"", "\x00", "a", "0", "-1", "00:00:00", "2026-11-15", "\xff\xfe", "ä€", climbing(0, 250), climbing(1, 251), climbing(0, 252), climbing(9, 65_535), climbing(0, 65_536)}
}

// values are of all kinds, such as may be and such as may not.
func values() []api.Value {
	var l []api.Value
	for _, x := range numberEdges() {
		l = append(l, integer(int64(x)), natural(x), float(x), double(x))
	}
	for _, w := range whenEdges() {
		l = append(l, api.Value{Kind: api.ValueDate, When: w}, api.Value{Kind: api.ValueTime, When: w})
	}
	for _, s := range shortTexts() {
		l = append(l, text(s))
	}
	for _, kind := range []int{math.MinInt64, -2, -1, 0, 1, 2, 3, 4, 5, 6, 7, 8, 9, math.MaxInt64} {
		l = append(l, mixed(kind)...)
	}
	return l
}

// mixed are values of a kind, each with one field at most that is not zero.
func mixed(kind int) []api.Value {
	l := []api.Value{{Kind: kind}, {Kind: kind, Int: 1}, {Kind: kind, Int: -1}, {Kind: kind, Bits: 1}, {Kind: kind, Text: "a"}, {Kind: kind, When: api.When{Neg: true}}}
	for i := range 7 {
		l = append(l, withField(api.Value{Kind: kind}, i, 1))
	}
	return l
}

// valuesOf are those of values that may be of a type.
func valuesOf(t api.Typed) []api.Value {
	var l []api.Value
	for _, v := range values() {
		if plainMayBe(v, t) {
			l = append(l, v)
		}
	}
	return l
}

// putOf are those that have bytes.
func putOf(t api.Typed) []api.Value {
	var l []api.Value
	for _, v := range valuesOf(t) {
		if v.Kind != api.ValueNull || t.Type == api.TypeNull {
			l = append(l, v)
		}
	}
	return l
}

// fewOf are a few of those that have bytes, their bytes being short.
func fewOf(t api.Typed) []api.Value {
	var l []api.Value
	for i, v := range putOf(t) {
		if i%7 == 0 && len(v.Text) < 300 {
			l = append(l, v)
		}
	}
	return l
}

// climbing is a text of bytes one more each, from one on.
func climbing(from byte, n int) string {
	l := make([]byte, n)
	for i := range l {
		l[i] = from + byte(i)
	}
	return string(l)
}

// with is b with another byte at a place.
func with(b []byte, at int, x byte) []byte {
	b = bytes.Clone(b)
	b[at] = x
	return b
}

// turned are texts like s: each byte turned into some others, left out, or with one ahead of it; cut at every place, and with something behind.
func turned(s string) []string {
	l := []string{s, " " + s, s + " ", "\t" + s, s + "\n", "+" + s, "-" + s, "0" + s, s + "0", s + ".", s + s, strings.ToUpper(s) + "x"}
	for i := range s {
		l = append(l, s[:i], s[i:], s[:i]+s[i+1:])
		for _, x := range "0123459-+:. /TtxeE_\x00\xff１" {
			l = append(l, s[:i]+string(x)+s[i+1:], s[:i]+string(x)+s[i:])
		}
		l = append(l, s[:i]+"\xff"+s[i+1:])
	}
	return l
}

func drawnTyped(r *rand.Rand) api.Typed {
	all := fewTypes()
	t := all[r.Intn(len(all))]
	if r.Intn(3) == 0 {
		t.Type = byte(r.Intn(18))
	}
	return t
}

// drawnValue is mostly one that may be of the type.
func drawnValue(r *rand.Rand, t api.Typed) api.Value {
	v := api.Value{Kind: plainKind(t)}
	switch v.Kind {
	case api.ValueInt:
		v.Int = int64(r.Uint64()) >> (64 - r.Intn(8*plainSize(t.Type)) - 1)
	case api.ValueUint, api.ValueFloat, api.ValueDouble:
		v.Bits = r.Uint64() >> (64 - r.Intn(8*plainSize(t.Type)) - 1)
	case api.ValueDate, api.ValueTime:
		v.When = drawnWhen(r, t)
	case api.ValueText:
		v.Text = climbing(byte(r.Uint32()), r.Intn(8))
	}
	switch r.Intn(12) {
	case 0:
		v.Int = int64(r.Uint64())
	case 1:
		v.Bits = r.Uint64()
	case 2:
		v.Kind = r.Intn(10) - 1
	case 3:
		v = withField(v, r.Intn(7), r.Intn(110)-5)
	}
	return v
}

func drawnWhen(r *rand.Rand, t api.Typed) api.When {
	most := []int{9999, 12, 31, 23, 59, 59, 999_999}
	if t.Type == api.TypeTime {
		most = []int{0, 0, 34, 23, 59, 59, 999_999}
	}
	w := api.When{Neg: t.Type == api.TypeTime && r.Intn(2) == 0}
	fields := 7
	if t.Type == api.TypeDate {
		fields = 3
	}
	for i := range fields {
		if r.Intn(3) > 0 {
			*fieldOf(&w, i) = r.Intn(most[i] + 1)
		}
	}
	return w
}

// drawnBytes are those of a value, in one of its forms, cut, spoilt, lengthened or as they are, or bytes that are drawn one by one.
func drawnBytes(r *rand.Rand, t api.Typed) []byte {
	l := plainForms(drawnValue(r, t), t)
	if len(l) == 0 {
		return nil
	}
	b := bytes.Clone(l[r.Intn(len(l))])
	switch r.Intn(6) {
	case 0:
		b = b[:r.Intn(len(b)+1)]
	case 1:
		b = append(b, climbing(byte(r.Uint32()), r.Intn(4))...)
	case 2:
		b = make([]byte, r.Intn(16))
		for i := range b {
			b[i] = drawnByte(r)
		}
	}
	for range r.Intn(3) {
		if len(b) > 0 {
			b[r.Intn(len(b))] = drawnByte(r)
		}
	}
	return b
}

// drawnByte is often one at which something hangs.
func drawnByte(r *rand.Rand) byte {
	if r.Intn(3) == 0 {
		return byte(r.Uint32())
	}
	return []byte{0, 0, 0, 1, 2, 4, 7, 8, 11, 12, 13, 23, 24, 59, 60, 127, 128, 250, 251, 252, 253, 254, 255}[r.Intn(23)]
}

// drawnText is a value's, of this type or of another, mostly with some bytes turned.
func drawnText(r *rand.Rand, t api.Typed) string {
	if r.Intn(4) == 0 {
		t = drawnTyped(r)
	}
	s, _ := plainText(drawnValue(r, t), t)
	for range r.Intn(3) {
		i := r.Intn(len(s) + 1)
		x := string("0123456789-+:. "[r.Intn(15)])
		switch r.Intn(3) {
		case 0:
			s = s[:i] + x + s[i:]
		case 1:
			s = s[:i] + x + s[min(i+1, len(s)):]
		case 2:
			s = s[:i] + s[min(i+1, len(s)):]
		}
	}
	return s
}

// brief is what a failed test tells of something.
func brief(x any) string {
	s := fmt.Sprintf("%+v", x)
	if v, isValue := x.(api.Value); isValue && len(v.Text) > 100 {
		s = fmt.Sprintf("a value of the kind %d, with a text of %d bytes", v.Kind, len(v.Text))
	}
	if len(s) > 300 {
		s = s[:150] + " .. " + s[len(s)-150:]
	}
	return s
}
