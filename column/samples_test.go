package column_test

import (
	"bytes"
	"fmt"
	"math/rand"
	"strings"

	"sluicegate/api"
)

// basic is a column all of whose bytes can be told apart, that the tests change one thing of.
func basic() api.Column {
	return api.Column{Schema: "sch", Table: "ta", OrgTable: "orgt", Name: "n", OrgName: "orgna",
		Charset: 0x0201, Length: 0x06050403, Type: api.TypeVarString, Flags: 0x0807, Decimals: 9}
}

// bare has nothing in it.
func bare() api.Column {
	return api.Column{}
}

// most has the greatest numbers, and texts as long as may be.
func most() api.Column {
	c := api.Column{Charset: 1<<16 - 1, Length: 1<<32 - 1, Type: 255, Flags: 1<<16 - 1, Decimals: 255}
	for i := range 5 {
		*textOf(&c, i) = climbing(byte(i), 255)
	}
	return c
}

// textOf is a column's i-th text.
func textOf(c *api.Column, i int) *string {
	switch i {
	case 0:
		return &c.Schema
	case 1:
		return &c.Table
	case 2:
		return &c.OrgTable
	case 3:
		return &c.Name
	}
	return &c.OrgName
}

func withText(c api.Column, i int, s string) api.Column {
	*textOf(&c, i) = s
	return c
}

func withType(c api.Column, t byte) api.Column {
	c.Type = t
	return c
}

// climbing is a text of bytes one more each, from one on.
func climbing(from byte, n int) string {
	l := make([]byte, n)
	for i := range l {
		l[i] = from + byte(i)
	}
	return string(l)
}

// with is b with another byte at a place.
func with(b []byte, at int, x byte) []byte {
	b = bytes.Clone(b)
	b[at] = x
	return b
}

func knownTypes() []byte {
	var l []byte
	for t := range 256 {
		if isKnown(byte(t)) {
			l = append(l, byte(t))
		}
	}
	return l
}

// columns are such as may be: each known type, each text at each of its edges, each number at its edges.
func columns() []api.Column {
	l := []api.Column{basic(), bare(), most()}
	for _, base := range []api.Column{basic(), bare(), most()} {
		for _, t := range knownTypes() {
			l = append(l, withType(base, t))
		}
		for i := range 5 {
			for _, s := range []string{"", "\x00", "a", "\xff\xfe", "def", "\x03def", "ä€", "\x0c", strings.Repeat("x", 127), climbing(0, 250), climbing(1, 251), climbing(0, 252), climbing(9, 254), climbing(0, 255)} {
				l = append(l, withText(base, i, s))
			}
		}
		l = append(l, withNumbers(base)...)
	}
	return l
}

// withNumbers are columns like base, each with another number.
func withNumbers(base api.Column) []api.Column {
	var l []api.Column
	for _, x := range []uint32{0, 1, 12, 32, 255, 256, 0x0201, 1<<15 - 1, 1 << 15, 1<<16 - 1, 1 << 16, 1 << 24, 0x04030201, 1<<31 - 1, 1 << 31, 1<<32 - 1} {
		charset, length, flags, decimals := base, base, base, base
		charset.Charset, length.Length, flags.Flags, decimals.Decimals = uint16(x), x, uint16(x), byte(x)
		l = append(l, charset, length, flags, decimals)
	}
	return l
}

// basics are few, and short but for one.
func basics() []api.Column {
	return []api.Column{basic(), bare(), withType(bare(), api.TypeGeometry), withText(basic(), 2, climbing(0, 251)), example()}
}

func drawnColumn(r *rand.Rand) api.Column {
	types := knownTypes()
	c := api.Column{Charset: uint16(r.Uint32()), Length: r.Uint32(), Type: types[r.Intn(len(types))], Flags: uint16(r.Uint32()), Decimals: byte(r.Uint32())}
	if r.Intn(8) == 0 {
		c.Type = byte(r.Uint32())
	}
	for i := range 5 {
		size := r.Intn(6)
		if r.Intn(4) == 0 {
			size = r.Intn(260)
		}
		*textOf(&c, i) = climbing(byte(r.Uint32()), size)
	}
	return c
}

// drawnBytes are those of a column, cut, spoilt, lengthened or as they are, or bytes that are drawn one by one.
func drawnBytes(r *rand.Rand) []byte {
	b := plainBytes(drawnColumn(r))
	switch r.Intn(6) {
	case 0:
		b = b[:r.Intn(len(b)+1)]
	case 1:
		b = append(b, climbing(byte(r.Uint32()), r.Intn(4))...)
	case 2:
		b = drawnOneByOne(r)
	}
	for range r.Intn(3) {
		if len(b) > 0 {
			b[r.Intn(len(b))] = drawnByte(r)
		}
	}
	return b
}

// drawnOneByOne begins mostly as a column does.
func drawnOneByOne(r *rand.Rand) []byte {
	b := make([]byte, r.Intn(40))
	for i := range b {
		b[i] = drawnByte(r)
	}
	if r.Intn(4) > 0 {
		return join(counted("def"), b)
	}
	return b
}

// drawnByte is often one at which something hangs.
func drawnByte(r *rand.Rand) byte {
	if r.Intn(3) == 0 {
		return byte(r.Uint32())
	}
	return []byte{0, 0, 0, 1, 2, 3, 12, 14, 16, 17, 244, 250, 251, 252, 253, 254, 255}[r.Intn(17)]
}

// brief is what a failed test tells of bytes or of a column.
func brief(x any) string {
	s := fmt.Sprintf("%+v", x)
	if c, isColumn := x.(api.Column); isColumn {
		s = fmt.Sprintf("%+q", []string{c.Schema, c.Table, c.OrgTable, c.Name, c.OrgName}) + fmt.Sprint(c.Charset, c.Length, c.Type, c.Flags, c.Decimals)
	}
	if len(s) > 300 {
		s = s[:150] + " .. " + s[len(s)-150:]
	}
	return s
}
