// Package lenenc is layer 1, whole numbers and texts as bytes: see shared/doc/01-lenenc.md.
package lenenc

import (
	"bytes"
	"strings"

	"sluicegate/api"
)

// mostBytes is how many bytes a fixed number has at most: those of a uint64.
const mostBytes = 8

// What a counted number begins with: up to mostPlain it is that byte itself; no other bytes than these begin one.
const (
	mostPlain = 250
	markTwo   = 252
	markThree = 253
	markEight = 254
)

// AppendFixed answers b with x behind it, in n bytes, the lowest first.
func AppendFixed(b []byte, x uint64, n int) ([]byte, api.Errno) {
	if !isWidth(n) || !fits(x, n) {
		return nil, api.ErrArg
	}
	return putFixed(withRoom(b, n), x, n), api.OK
}

// ReadFixed answers the number of b's first n bytes.
func ReadFixed(b []byte, n int) (uint64, api.Errno) {
	if !isWidth(n) {
		return 0, api.ErrArg
	}
	if len(b) < n {
		return 0, api.ErrShort
	}
	var x uint64
	for i := range n {
		x |= uint64(b[i]) << (8 * uint(i))
	}
	return x, api.OK
}

// AppendInt answers b with x's shortest counted form behind it.
func AppendInt(b []byte, x uint64) []byte {
	return putInt(withRoom(b, Size(x)), x)
}

// ReadInt answers the counted number at b's beginning, be it the shortest form or not, and how many bytes it has.
func ReadInt(b []byte) (x uint64, n int, e api.Errno) {
	if len(b) == 0 {
		return 0, 0, api.ErrShort
	}
	if b[0] <= mostPlain {
		return uint64(b[0]), 1, api.OK
	}
	width := widthBehind(b[0])
	if width == 0 {
		return 0, 0, api.ErrBad
	}
	x, e = ReadFixed(b[1:], width)
	if e != api.OK {
		return 0, 0, e
	}
	return x, 1 + width, api.OK
}

// AppendText answers b with s behind it, as a counted text.
func AppendText(b []byte, s string) []byte {
	size := uint64(len(s))
	out := putInt(withRoom(b, Size(size)+len(s)), size)
	return append(out, []byte(s)...)
}

// ReadText answers the counted text at b's beginning, and how many bytes it has together with its number.
func ReadText(b []byte) (s string, n int, e api.Errno) {
	size, n, e := ReadInt(b)
	if e != api.OK {
		return "", 0, e
	}
	// Held against each other unsigned: a number above the greatest int would turn negative.
	if uint64(len(b)-n) < size {
		return "", 0, api.ErrShort
	}
	end := n + int(size)
	return string(b[n:end]), end, api.OK
}

// AppendEnded answers b with s and a byte 0 behind it.
func AppendEnded(b []byte, s string) ([]byte, api.Errno) {
	if strings.IndexByte(s, 0) >= 0 {
		return nil, api.ErrArg
	}
	out := append(withRoom(b, len(s)+1), []byte(s)...)
	return append(out, 0), api.OK
}

// ReadEnded answers what stands ahead of b's first byte 0, and how many bytes it has together with that one.
func ReadEnded(b []byte) (s string, n int, e api.Errno) {
	end := bytes.IndexByte(b, 0)
	if end < 0 {
		return "", 0, api.ErrShort
	}
	return string(b[:end]), end + 1, api.OK
}

// Size answers how many bytes x's shortest counted form has.
func Size(x uint64) int {
	return 1 + widthBehind(firstByte(x))
}

func isWidth(n int) bool {
	return n >= 1 && n <= mostBytes
}

// fits leans on a shift by all 64 bits being 0: so every x fits into eight bytes.
func fits(x uint64, n int) bool {
	return x>>(8*uint(n)) == 0
}

// firstByte is the byte that x's shortest counted form begins with.
func firstByte(x uint64) byte {
	switch {
	case x <= mostPlain:
		return byte(x)
	case fits(x, 2):
		return markTwo
	case fits(x, 3):
		return markThree
	}
	return markEight
}

// widthBehind is how many bytes a counted number has behind its first one: 0 where that is the number, or begins none.
func widthBehind(first byte) int {
	switch first {
	case markTwo:
		return 2
	case markThree:
		return 3
	case markEight:
		return 8
	}
	return 0
}

// withRoom copies b even where it has spare room itself, as that is the caller's.
func withRoom(b []byte, room int) []byte {
	return append(make([]byte, 0, len(b)+room), b...)
}

// putFixed and putInt append in place: what they are handed came out of withRoom.
func putFixed(out []byte, x uint64, n int) []byte {
	for i := range n {
		out = append(out, byte(x>>(8*uint(i))))
	}
	return out
}

func putInt(out []byte, x uint64) []byte {
	first := firstByte(x)
	return putFixed(append(out, first), x, widthBehind(first))
}
