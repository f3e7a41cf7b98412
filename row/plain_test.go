package row_test

import (
	"encoding/binary"
	"slices"
	"strconv"
	"strings"

	"sluicegate/api"
	"sluicegate/value"
)

// This file reads the chapter plainly: what bytes rows have, and what is told of bytes. What a single value is, package value tells.

func mayBe(v api.Value, of api.Typed) bool {
	return value.Check(v, of) == api.OK
}

// counted is a text with its count ahead, in the shortest form.
func counted(s string) []byte {
	full := binary.LittleEndian.AppendUint64(nil, uint64(len(s)))
	switch n := len(s); {
	case n <= 250:
		return join(full[:1], []byte(s))
	case n < 1<<16:
		return join([]byte{252}, full[:2], []byte(s))
	case n < 1<<24:
		return join([]byte{253}, full[:3], []byte(s))
	}
	return join([]byte{254}, full, []byte(s))
}

func plainAppendText(b []byte, row []api.Value) ([]byte, api.Errno) {
	if len(row) > 4096 {
		return nil, api.ErrLong
	}
	parts := [][]byte{b}
	for _, v := range row {
		switch {
		case v == api.Value{}:
			parts = append(parts, []byte{251})
		case v == text(v.Text) && len(v.Text) <= 1<<24:
			parts = append(parts, counted(v.Text))
		default:
			return nil, api.ErrArg
		}
	}
	return join(parts...), api.OK
}

// countAt is the number that a text begins with, and how many bytes that has.
func countAt(b []byte) (count uint64, size int, e api.Errno) {
	if len(b) == 0 {
		return 0, 0, api.ErrShort
	}
	behind := 0
	switch b[0] {
	case 251, 255:
		return 0, 0, api.ErrBad
	case 252:
		behind = 2
	case 253:
		behind = 3
	case 254:
		behind = 8
	default:
		return uint64(b[0]), 1, api.OK
	}
	if len(b) <= behind {
		return 0, 0, api.ErrShort
	}
	var full [8]byte
	copy(full[:], b[1:1+behind])
	return binary.LittleEndian.Uint64(full[:]), 1 + behind, api.OK
}

func plainReadText(b []byte, n int) ([]api.Value, api.Errno) {
	if n < 0 || n > 4096 {
		return nil, api.ErrArg
	}
	if n == 0 {
		return nil, badIf(len(b) > 0)
	}
	v, size := api.Value{}, 1
	if len(b) == 0 || b[0] != 251 {
		count, at, e := countAt(b)
		if e != api.OK {
			return nil, e
		}
		if count > uint64(len(b)-at) {
			return nil, api.ErrShort
		}
		if count > 1<<24 {
			return nil, api.ErrBad
		}
		size = at + int(count)
		v = text(string(b[at:size]))
	}
	rest, e := plainReadText(b[size:], n-1)
	if e != api.OK {
		return nil, e
	}
	return append([]api.Value{v}, rest...), api.OK
}

func badIf(bad bool) api.Errno {
	if bad {
		return api.ErrBad
	}
	return api.OK
}

// plainBits are the bytes of bits that are written one behind the other, the lowest of the first byte first.
func plainBits(bits string) []byte {
	var l []byte
	for eight := range slices.Chunk([]byte(bits), 8) {
		slices.Reverse(eight)
		x, err := strconv.ParseUint(string(eight), 2, 8)
		if err != nil {
			panic(err)
		}
		l = append(l, byte(x))
	}
	return l
}

// plainNulls are the bits of a row, written one behind the other up to a byte's end.
func plainNulls(row []api.Value) string {
	bits := "00"
	for _, v := range row {
		if v.Kind == 0 {
			bits += "1"
		} else {
			bits += "0"
		}
	}
	return bits + strings.Repeat("0", 8*((len(row)+9)/8)-len(bits))
}

func plainAppendBinary(b []byte, row []api.Value, types []api.Typed) ([]byte, api.Errno) {
	if len(types) > 4096 {
		return nil, api.ErrLong
	}
	if len(row) != len(types) {
		return nil, api.ErrArg
	}
	parts := [][]byte{b, {0}, plainBits(plainNulls(row))}
	for i, v := range row {
		if !mayBe(v, types[i]) {
			return nil, api.ErrArg
		}
		if v.Kind != 0 {
			own, _ := value.Append(nil, v, types[i])
			parts = append(parts, own)
		}
	}
	return join(parts...), api.OK
}

func plainReadBinary(b []byte, types []api.Typed) ([]api.Value, api.Errno) {
	if len(types) > 4096 {
		return nil, api.ErrLong
	}
	for _, of := range types {
		if !isKnown(of.Type) {
			return nil, api.ErrArg
		}
	}
	n := len(types)
	values := 1 + (n+9)/8
	switch {
	case len(b) > 0 && b[0] != 0:
		return nil, api.ErrBad
	case len(b) < values:
		return nil, api.ErrShort
	}
	bits := ""
	for _, x := range b[1:values] {
		eight := []byte(strconv.FormatUint(uint64(x)+256, 2)[1:])
		slices.Reverse(eight)
		bits += string(eight)
	}
	if strings.Contains(bits[:2]+bits[2+n:], "1") {
		return nil, api.ErrBad
	}
	for i, of := range types {
		if of.Type == 6 && bits[2+i] == '0' {
			return nil, api.ErrBad
		}
	}
	return plainValues(b[values:], types, bits[2:])
}

// plainValues reads the values that the bits do not say to be Null.
func plainValues(b []byte, types []api.Typed, bits string) ([]api.Value, api.Errno) {
	row := make([]api.Value, len(types))
	at := 0
	for i, of := range types {
		if bits[i] == '1' {
			continue
		}
		v, size, e := value.Read(b[at:], of)
		if e != api.OK {
			return nil, e
		}
		row[i] = v
		at += size
	}
	if at < len(b) {
		return nil, api.ErrBad
	}
	return row, api.OK
}

func plainTurned(b []byte, types []api.Typed) ([]byte, api.Errno) {
	row, e := plainReadBinary(b, types)
	if e != api.OK {
		return nil, e
	}
	var out []byte
	for i, of := range types {
		if of.Type == 4 || of.Type == 5 {
			return nil, api.ErrArg
		}
		if row[i].Kind == 0 {
			out = append(out, 251)
			continue
		}
		s, e := value.Text(row[i], of)
		if e != api.OK {
			return nil, e
		}
		out = append(out, counted(s)...)
	}
	return out, api.OK
}
