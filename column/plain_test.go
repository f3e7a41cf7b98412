package column_test

import (
	"encoding/binary"
	"fmt"
	"slices"

	"sluicegate/api"
)

// This file reads the chapter plainly: which types there are, what bytes columns and counts have, which of them may be, what is told of bytes.

// plainNames are the types as the chapter lists them, by their numbers.
func plainNames() map[int]string {
	return map[int]string{
		0: "decimal", 1: "tiny", 2: "short", 3: "long", 4: "float", 5: "double", 6: "null", 7: "timestamp", 8: "long-long", 9: "int24",
		10: "date", 11: "time", 12: "date-time", 13: "year", 15: "var-char", 16: "bit",
		245: "json", 246: "new-decimal", 247: "enum", 248: "set", 249: "tiny-blob", 250: "medium-blob", 251: "long-blob", 252: "blob",
		253: "var-string", 254: "string", 255: "geometry",
	}
}

// isKnown tells the known types by where they stand.
func isKnown(t byte) bool {
	return t <= 13 || t == 15 || t == 16 || t >= 245
}

func plainName(t byte) string {
	if isKnown(t) {
		return plainNames()[int(t)]
	}
	return fmt.Sprintf("type-%d", t)
}

func mayBe(c api.Column) bool {
	return isKnown(c.Type) && max(len(c.Schema), len(c.Table), len(c.OrgTable), len(c.Name), len(c.OrgName)) < 256
}

func join(parts ...[]byte) []byte {
	return slices.Concat(parts...)
}

func two(x uint16) []byte {
	return binary.LittleEndian.AppendUint16(nil, x)
}

func four(x uint32) []byte {
	return binary.LittleEndian.AppendUint32(nil, x)
}

// forms are a number's counted forms, as many as it fits, the shortest first.
func forms(x uint64) [][]byte {
	full := binary.LittleEndian.AppendUint64(nil, x)
	var l [][]byte
	if x <= 250 {
		l = append(l, full[:1])
	}
	if x < 1<<16 {
		l = append(l, join([]byte{252}, full[:2]))
	}
	if x < 1<<24 {
		l = append(l, join([]byte{253}, full[:3]))
	}
	return append(l, join([]byte{254}, full))
}

// counted is a text behind its count in the shortest form.
func counted(s string) []byte {
	return join(forms(uint64(len(s)))[0], []byte(s))
}

func plainBytes(c api.Column) []byte {
	return join(counted("def"), counted(c.Schema), counted(c.Table), counted(c.OrgTable), counted(c.Name), counted(c.OrgName), plainTail(c))
}

// plainTail is what stands behind a column's texts.
func plainTail(c api.Column) []byte {
	return join([]byte{12}, two(c.Charset), four(c.Length), []byte{c.Type}, two(c.Flags), []byte{c.Decimals, 0, 0})
}

// numberAt is the counted number at a place, and the place behind it.
func numberAt(b []byte, at int) (uint64, int, api.Errno) {
	if at == len(b) {
		return 0, 0, api.ErrShort
	}
	size, more := 0, map[byte]int{252: 2, 253: 3, 254: 8}
	switch first := b[at]; first {
	case 251, 255:
		return 0, 0, api.ErrBad
	default:
		size = more[first]
		if size == 0 {
			return uint64(first), at + 1, api.OK
		}
	}
	if len(b) < at+1+size {
		return 0, 0, api.ErrShort
	}
	var full [8]byte
	copy(full[:], b[at+1:at+1+size])
	return binary.LittleEndian.Uint64(full[:]), at + 1 + size, api.OK
}

// textAt is the counted text at a place, and the place behind it.
func textAt(b []byte, at int) (string, int, api.Errno) {
	size, at, e := numberAt(b, at)
	if e != api.OK {
		return "", 0, e
	}
	if size > uint64(len(b)-at) {
		return "", 0, api.ErrShort
	}
	return string(b[at : at+int(size)]), at + int(size), api.OK
}

func plainRead(b []byte) (api.Column, api.Errno) {
	var own [6]string
	at := 0
	for i := range own {
		s, next, e := textAt(b, at)
		switch {
		case e != api.OK:
			return api.Column{}, e
		case i == 0 && s != "def", len(s) > 255:
			return api.Column{}, api.ErrBad
		}
		own[i], at = s, next
	}
	tail := b[at:]
	if e := plainTailError(tail); e != api.OK {
		return api.Column{}, e
	}
	le := binary.LittleEndian
	return api.Column{Schema: own[1], Table: own[2], OrgTable: own[3], Name: own[4], OrgName: own[5],
		Charset: le.Uint16(tail[1:]), Length: le.Uint32(tail[3:]), Type: tail[7], Flags: le.Uint16(tail[8:]), Decimals: tail[10]}, api.OK
}

// plainTailError is what is wrong with what stands behind a column's texts.
func plainTailError(tail []byte) api.Errno {
	switch n := len(tail); {
	case n < 1:
		return api.ErrShort
	case tail[0] != 12:
		return api.ErrBad
	case n < 8:
		return api.ErrShort
	case !isKnown(tail[7]):
		return api.ErrBad
	case n < 13:
		return api.ErrShort
	case tail[11] != 0 || tail[12] != 0 || n > 13:
		return api.ErrBad
	}
	return api.OK
}

// plainReadCount leans on a count up to 4,096 being one byte up to 250, or 252 and two bytes.
func plainReadCount(b []byte) (int, api.Errno) {
	x, end, e := numberAt(b, 0)
	if e != api.OK {
		return 0, e
	}
	ok := x >= 1 && x <= 250 && end == 1 || x >= 251 && x <= 4096 && end == 3
	if !ok || end != len(b) {
		return 0, api.ErrBad
	}
	return int(x), api.OK
}
