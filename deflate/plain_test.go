package deflate_test

import (
	"strings"

	"sluicegate/api"
)

// What stands here says what the chapter's words say, without any of the program and without care for time.

// plainPieces tries each copy at each place.
func plainPieces(b []byte) []api.Piece {
	var l []api.Piece
	for at := 0; at < len(b); {
		best := api.Piece{Byte: b[at]}
		for dist := 1; dist <= 32768 && dist <= at && best.Len < 258; dist++ {
			n := 0
			for n < 258 && at+n < len(b) && b[at+n] == b[at+n-dist] {
				n++
			}
			if n >= 3 && n > best.Len {
				best = api.Piece{Len: n, Dist: dist}
			}
		}
		l = append(l, best)
		at += max(1, best.Len)
	}
	return l
}

func plainExpand(l []api.Piece) ([]byte, api.Errno) {
	var b []byte
	for _, p := range l {
		switch {
		case p.Len != 0 && (p.Len < 3 || p.Len > 258):
			return nil, api.ErrArg
		case p.Len != 0 && (p.Dist < 1 || p.Dist > 32768):
			return nil, api.ErrArg
		case p.Len == 0 && p.Dist != 0:
			return nil, api.ErrArg
		case p.Len != 0 && p.Byte != 0:
			return nil, api.ErrArg
		case p.Len == 0:
			b = append(b, p.Byte)
		case p.Dist > len(b):
			return nil, api.ErrBad
		default:
			for range p.Len {
				b = append(b, b[len(b)-p.Dist])
			}
		}
	}
	return b, api.OK
}

// digits writes a number in so many binary digits, the highest first.
func digits(x, n int) string {
	s := ""
	for i := n - 1; i >= 0; i-- {
		s += string(rune('0' + x>>i&1))
	}
	return s
}

// plainField writes a number in so many bits, the lowest first.
func plainField(x, n int) string {
	s := ""
	for i := range n {
		s += string(rune('0' + x>>i&1))
	}
	return s
}

// plainLiteral is the fixed code of a symbol of the literal code, as RFC 1951 tells it.
func plainLiteral(symbol int) string {
	switch {
	case symbol <= 143:
		return digits(0b00110000+symbol, 8)
	case symbol <= 255:
		return digits(0b110010000+symbol-144, 9)
	case symbol <= 279:
		return digits(symbol-256, 7)
	}
	return digits(0b11000000+symbol-280, 8)
}

// row is the least number that a symbol stands for, and of how many bits its field is.
type row struct {
	least, bits int
}

var plainLengths = []row{
	{3, 0}, {4, 0}, {5, 0}, {6, 0}, {7, 0}, {8, 0}, {9, 0}, {10, 0},
	{11, 1}, {13, 1}, {15, 1}, {17, 1}, {19, 2}, {23, 2}, {27, 2}, {31, 2},
	{35, 3}, {43, 3}, {51, 3}, {59, 3}, {67, 4}, {83, 4}, {99, 4}, {115, 4},
	{131, 5}, {163, 5}, {195, 5}, {227, 5}, {258, 0},
}

var plainDistances = []row{
	{1, 0}, {2, 0}, {3, 0}, {4, 0}, {5, 1}, {7, 1}, {9, 2}, {13, 2},
	{17, 3}, {25, 3}, {33, 4}, {49, 4}, {65, 5}, {97, 5}, {129, 6}, {193, 6},
	{257, 7}, {385, 7}, {513, 8}, {769, 8}, {1025, 9}, {1537, 9}, {2049, 10}, {3073, 10},
	{4097, 11}, {6145, 11}, {8193, 12}, {12289, 12}, {16385, 13}, {24577, 13},
}

// plainSymbol is the last row that begins at or below x, and the field of x in it.
func plainSymbol(rows []row, x int) (symbol int, field string) {
	for i, r := range rows {
		if x >= r.least {
			symbol, field = i, plainField(x-r.least, r.bits)
		}
	}
	return symbol, field
}

// plainBits is the fixed stream of pieces as a text of 0 and 1.
func plainBits(l []api.Piece) string {
	var s strings.Builder
	s.WriteString("1" + plainField(1, 2))
	for _, p := range l {
		if p.Len == 0 {
			s.WriteString(plainLiteral(int(p.Byte)))
			continue
		}
		symbol, field := plainSymbol(plainLengths, p.Len)
		s.WriteString(plainLiteral(257+symbol) + field)
		symbol, field = plainSymbol(plainDistances, p.Dist)
		s.WriteString(digits(symbol, 5) + field)
	}
	s.WriteString(plainLiteral(256))
	return s.String()
}

// plainBytes puts bits into bytes, noughts behind the last one.
func plainBytes(bits string) []byte {
	b := make([]byte, (len(bits)+7)/8)
	for i, c := range bits {
		if c == '1' {
			b[i/8] += 1 << (i % 8)
		}
	}
	return b
}

func plainFixed(l []api.Piece) []byte {
	return plainBytes(plainBits(l))
}

func plainStored(b []byte) []byte {
	var out []byte
	for {
		n := min(65535, len(b))
		last := byte(0)
		if n == len(b) {
			last = 1
		}
		out = append(out, last, byte(n%256), byte(n/256), byte((65535-n)%256), byte((65535-n)/256))
		out = append(out, b[:n]...)
		b = b[n:]
		if len(b) == 0 {
			return out
		}
	}
}

// plainDeflate is handed the pieces too, as it takes long to find them plainly.
func plainDeflate(b []byte, l []api.Piece) []byte {
	fixed, stored := plainFixed(l), plainStored(b)
	if len(fixed) > len(stored) {
		return stored
	}
	return fixed
}
