package value

import (
	"slices"

	"sluicegate/api"
	"sluicegate/lenenc"
)

// Where the hours begin, of a date and of a time, behind the first byte.
const (
	dateHours = 4
	timeHours = 5
)

// fields are the bytes behind the first one of a date or of a time, those that are left out being 0.
type fields [12]byte

// bytesOf leans on v being one that may be of the type: so no field is refused.
func bytesOf(v api.Value, t api.Typed) []byte {
	switch n := size(t.Type); v.Kind {
	case api.ValueInt:
		return fixed(unsigned(uint64(v.Int), n), n)
	case api.ValueUint, api.ValueFloat, api.ValueDouble:
		return fixed(v.Bits, n)
	case api.ValueDate:
		return counted(dateBytes(v.When), dateLength(v.When))
	case api.ValueTime:
		return counted(timeBytes(v.When), timeLength(v.When))
	case api.ValueText:
		return lenenc.AppendText(nil, v.Text)
	}
	return nil
}

func fixed(x uint64, n int) []byte {
	out, _ := lenenc.AppendFixed(nil, x, n)
	return out
}

// counted is the first n of some bytes, with n ahead.
func counted(all []byte, n int) []byte {
	return slices.Concat([]byte{byte(n)}, all[:n])
}

func dateBytes(w api.When) []byte {
	return slices.Concat(fixed(uint64(w.Year), 2), []byte{byte(w.Month), byte(w.Day)}, clockBytes(w))
}

func dateLength(w api.When) int {
	switch {
	case w == (api.When{}):
		return 0
	case isMidnight(w):
		return 4
	case w.Micro == 0:
		return 7
	}
	return 11
}

func timeBytes(w api.When) []byte {
	neg := byte(0)
	if w.Neg {
		neg = 1
	}
	return slices.Concat([]byte{neg}, fixed(uint64(w.Day), 4), clockBytes(w))
}

func timeLength(w api.When) int {
	switch {
	case w == (api.When{}):
		return 0
	case w.Micro == 0:
		return 8
	}
	return 12
}

func clockBytes(w api.When) []byte {
	return slices.Concat([]byte{byte(w.Hour), byte(w.Minute), byte(w.Second)}, fixed(uint64(w.Micro), 4))
}

// readAny answers what the bytes of a type that is known say, be it a value that may be or not.
func readAny(b []byte, t api.Typed) (api.Value, int, api.Errno) {
	switch kind := Kind(t); kind {
	case api.ValueInt:
		x, n, e := readFixed(b, t)
		return api.Value{Kind: kind, Int: signed(x, n)}, n, e
	case api.ValueUint, api.ValueFloat, api.ValueDouble:
		x, n, e := readFixed(b, t)
		return api.Value{Kind: kind, Bits: x}, n, e
	case api.ValueDate:
		w, n, e := readDate(b)
		return api.Value{Kind: kind, When: w}, n, e
	case api.ValueTime:
		w, n, e := readTime(b)
		return api.Value{Kind: kind, When: w}, n, e
	case api.ValueText:
		s, n, e := lenenc.ReadText(b)
		return api.Value{Kind: kind, Text: s}, n, e
	}
	return api.Value{}, 0, api.OK
}

func readFixed(b []byte, t api.Typed) (uint64, int, api.Errno) {
	n := size(t.Type)
	x, e := lenenc.ReadFixed(b, n)
	return x, n, e
}

func readDate(b []byte) (api.When, int, api.Errno) {
	f, n, e := readFields(b, 0, 4, 7, 11)
	w := clockOf(f[dateHours:])
	w.Year, w.Month, w.Day = number(f[:2]), int(f[2]), int(f[3])
	return w, n, e
}

func readTime(b []byte) (api.When, int, api.Errno) {
	f, n, e := readFields(b, 0, 8, 12)
	if f[0] > 1 {
		return api.When{}, 0, api.ErrBad
	}
	w := clockOf(f[timeHours:])
	w.Neg, w.Day = f[0] == 1, number(f[1:timeHours])
	return w, n, e
}

// readFields answers what stands behind a first byte, which is one of those that may be, and how many bytes all of it has.
func readFields(b []byte, lengths ...int) (f fields, n int, e api.Errno) {
	first, e := lenenc.ReadFixed(b, 1)
	if e != api.OK {
		return f, 0, e
	}
	if !slices.Contains(lengths, int(first)) {
		return f, 0, api.ErrBad
	}
	n = 1 + int(first)
	if len(b) < n {
		return f, 0, api.ErrShort
	}
	copy(f[:], b[1:n])
	return f, n, api.OK
}

// clockOf is the time of day at the beginning of b.
func clockOf(b []byte) api.When {
	return api.When{Hour: int(b[0]), Minute: int(b[1]), Second: int(b[2]), Micro: number(b[3:7])}
}

// number is the fixed number of all of b.
func number(b []byte) int {
	x, _ := lenenc.ReadFixed(b, len(b))
	return int(x)
}
