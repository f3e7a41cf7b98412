package param_test

import (
	"slices"
	"strconv"
	"strings"

	"sluicegate/api"
	"sluicegate/value"
)

// This file reads the chapter plainly: what an execute's data is, and what is told of bytes. What a single value is, package value tells.

func mayBe(v api.Value, of api.Typed) bool {
	return value.Check(v, of) == api.OK
}

// plainBits are the bytes of bits that are written one behind the other, the lowest of the first byte first.
func plainBits(bits string) []byte {
	var l []byte
	for eight := range slices.Chunk([]byte(bits), 8) {
		slices.Reverse(eight)
		x, err := strconv.ParseUint(string(eight), 2, 8)
		if err != nil {
			panic(err)
		}
		l = append(l, byte(x))
	}
	return l
}

// written are the bits of bytes, one behind the other.
func written(b []byte) string {
	var bits strings.Builder
	for _, x := range b {
		eight := []byte(strconv.FormatUint(uint64(x)+256, 2)[1:])
		slices.Reverse(eight)
		bits.Write(eight)
	}
	return bits.String()
}

func plainAppend(b []byte, l []api.Param, bound bool) ([]byte, api.Errno) {
	if len(l) > 65_535 {
		return nil, api.ErrLong
	}
	bits := []byte(strings.Repeat("0", (len(l)+7)/8*8))
	var types, values []byte
	for i, p := range l {
		if !isKnown(p.Typed.Type) || !mayBe(p.Value, p.Typed) || p.Long && p.Value != (api.Value{}) {
			return nil, api.ErrArg
		}
		types = append(types, typeBytes(p.Typed)...)
		switch {
		case p.Value != api.Value{}:
			own, _ := value.Append(nil, p.Value, p.Typed)
			values = append(values, own...)
		case !p.Long:
			bits[i] = '1'
		}
	}
	switch {
	case len(l) == 0:
		return join(b), api.OK
	case bound:
		return join(b, plainBits(string(bits)), []byte{1}, types, values), api.OK
	}
	return join(b, plainBits(string(bits)), []byte{0}, values), api.OK
}

func plainRead(b []byte, n int, types []api.Typed, long []bool) ([]api.Param, bool, api.Errno) {
	if n < 0 || n > 65_535 {
		return nil, false, api.ErrArg
	}
	if n == 0 {
		return nil, false, badIf(len(b) > 0)
	}
	is := make([]bool, n)
	copy(is, long)
	at := (n + 7) / 8
	if len(b) < at {
		return nil, false, api.ErrShort
	}
	bits := written(b[:at])
	for i := range bits {
		if bits[i] == '1' && (i >= n || is[i]) {
			return nil, false, api.ErrBad
		}
	}
	if len(b) == at {
		return nil, false, api.ErrShort
	}
	bound := b[at] == 1
	at++
	switch b[at-1] {
	case 0:
		if len(types) < n {
			return nil, false, api.ErrBad
		}
	case 1:
		told, e := plainTypes(b[at:], n)
		if e != api.OK {
			return nil, false, e
		}
		types = told
		at += 2 * n
	default:
		return nil, false, api.ErrBad
	}
	l, e := plainParams(b[at:], types[:n], is, bits)
	if e != api.OK {
		return nil, false, e
	}
	return l, bound, api.OK
}

func badIf(bad bool) api.Errno {
	if bad {
		return api.ErrBad
	}
	return api.OK
}

// plainTypes goes over the types' bytes one by one.
func plainTypes(b []byte, n int) ([]api.Typed, api.Errno) {
	var types []api.Typed
	for i := range 2 * n {
		switch {
		case i >= len(b):
			return nil, api.ErrShort
		case i%2 == 0 && !isKnown(b[i]), i%2 == 1 && b[i]&127 != 0:
			return nil, api.ErrBad
		case i%2 == 1:
			types = append(types, api.Typed{Type: b[i-1], Unsigned: b[i] != 0})
		}
	}
	return types, api.OK
}

// plainParams reads the values of those that the bits do not say to be Null, and that are not Long.
func plainParams(b []byte, types []api.Typed, is []bool, bits string) ([]api.Param, api.Errno) {
	l := make([]api.Param, len(types))
	var valued []int
	for i, of := range types {
		l[i] = api.Param{Typed: of, Long: is[i]}
		if !isKnown(of.Type) {
			return nil, api.ErrBad
		}
		if bits[i] == '0' && !is[i] {
			valued = append(valued, i)
		}
	}
	at := 0
	for _, i := range valued {
		if types[i].Type == 6 {
			return nil, api.ErrBad
		}
		v, size, e := value.Read(b[at:], types[i])
		if e != api.OK {
			return nil, e
		}
		l[i].Value = v
		at += size
	}
	return l, badIf(at < len(b))
}
