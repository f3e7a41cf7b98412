package command_test

import (
	"bytes"
	"fmt"
	"math/rand"
	"strings"
	"testing"

	"sluicegate/api"
)

// climbing is bytes one more each, from one on.
func climbing(from byte, n int) []byte {
	l := make([]byte, n)
	for i := range l {
		l[i] = from + byte(i)
	}
	return l
}

// with is b with another byte at a place.
func with(b []byte, at int, x byte) []byte {
	b = bytes.Clone(b)
	b[at] = x
	return b
}

func numbers4() []uint32 {
	return []uint32{0, 1, 7, 250, 251, 255, 256, 65535, 65536, 1<<24 - 1, 1 << 24, 0x04030201, 1<<31 - 1, 1 << 31, 1<<32 - 2, 1<<32 - 1}
}

func numbers2() []uint16 {
	return []uint16{0, 1, 7, 250, 251, 255, 256, 0x0201, 1<<15 - 1, 1 << 15, 1<<16 - 2, 1<<16 - 1}
}

func datas() [][]byte {
	return [][]byte{nil, {}, {0}, {1, 0, 0, 0}, {14}, {255}, {23, 7, 0, 0, 0, 2}, climbing(0, 256), climbing(1, 300)}
}

func texts() []string {
	return []string{"", "select 1", "d", "\x00", "a\x00b", "\xff\xfe", "ä€", string(climbing(0, 256)), strings.Repeat("x", 70000)}
}

// kindsOf is all kinds that have just these fields.
func kindsOf(has string) []byte {
	var l []byte
	for kind := range 256 {
		if plainHas(byte(kind)) == has {
			l = append(l, byte(kind))
		}
	}
	return l
}

// commands are of each kind, with each of its fields at its edges.
func commands() []api.Command {
	var l []api.Command
	for _, kind := range kindsOf("") {
		l = append(l, api.Command{Kind: kind})
	}
	for _, kind := range kindsOf("T") {
		for _, s := range texts() {
			l = append(l, api.Command{Kind: kind, Text: s})
		}
	}
	for _, kind := range kindsOf("D") {
		for _, data := range datas() {
			l = append(l, api.Command{Kind: kind, Data: data})
		}
	}
	for _, x := range numbers2() {
		l = append(l, api.Command{Kind: api.ComSetOption, Option: x})
	}
	for _, x := range numbers4() {
		l = append(l, api.Command{Kind: api.ComProcessKill, Count: x})
		l = append(l, api.Command{Kind: api.ComClose, Stmt: x}, api.Command{Kind: api.ComStmtReset, Stmt: x})
		for _, count := range numbers4() {
			l = append(l, api.Command{Kind: api.ComFetch, Stmt: x, Count: count})
		}
		for _, data := range datas() {
			l = append(l, api.Command{Kind: api.ComExecute, Stmt: x, Data: data}, api.Command{Kind: api.ComExecute, Stmt: x, Flags: 1, Data: data})
			l = append(l, api.Command{Kind: api.ComLongData, Stmt: x, Param: uint16(^x), Data: data})
		}
	}
	for _, x := range numbers2() {
		l = append(l, api.Command{Kind: api.ComLongData, Stmt: 0x04030201, Param: x, Data: []byte{9}})
	}
	return l
}

// basics are one command of each kind of the table, with something in each of its fields, and some that it does not name.
func basics() []api.Command {
	return []api.Command{
		{Kind: api.ComQuit}, {Kind: api.ComStatistics}, {Kind: api.ComPing}, {Kind: api.ComReset},
		{Kind: api.ComInitDB, Text: "db"}, {Kind: api.ComQuery, Text: "select 1"}, {Kind: api.ComPrepare, Text: "select ?"},
		{Kind: api.ComProcessKill, Count: 0x04030201},
		{Kind: api.ComExecute, Stmt: 0x08070605, Data: []byte{9, 8}}, {Kind: api.ComExecute, Stmt: 0x08070605, Flags: 1, Data: []byte{9, 8}},
		{Kind: api.ComLongData, Stmt: 0x08070605, Param: 0x0403, Data: []byte{9, 8}},
		{Kind: api.ComClose, Stmt: 0x08070605}, {Kind: api.ComStmtReset, Stmt: 0x08070605},
		{Kind: api.ComSetOption, Option: 0x0201}, {Kind: api.ComFetch, Stmt: 0x08070605, Count: 0x04030201},
		{Kind: api.ComChangeUser, Data: []byte{9, 8}}, {Kind: api.ComSleep, Data: []byte{9, 8}}, {Kind: 200, Data: []byte{9, 8}},
	}
}

// drawnBytes begin mostly with a kind that has something of its own, and are mostly about as long as that.
func drawnBytes(r *rand.Rand) []byte {
	b := make([]byte, r.Intn(16))
	for i := range b {
		b[i] = byte(r.Intn(3))
	}
	if len(b) > 0 {
		b[0] = byte(r.Intn(36))
		if r.Intn(4) == 0 {
			b[0] = api.ComExecute
		}
	}
	if len(b) > 9 && r.Intn(2) == 0 {
		copy(b[6:], []byte{1, 0, 0, 0})
	}
	for range r.Intn(3) {
		if len(b) > 1 {
			b[1+r.Intn(len(b)-1)] = byte(r.Intn(256))
		}
	}
	return b
}

// drawnCommand has something in some fields, whether its kind has them or not.
func drawnCommand(r *rand.Rand) api.Command {
	c := api.Command{Kind: byte(r.Intn(36))}
	has := plainHas(c.Kind)
	filled := func(letter string) bool {
		return strings.Contains(has, letter) && r.Intn(3) > 0 || r.Intn(20) == 0
	}
	if filled("T") {
		c.Text = string(climbing(byte(r.Int()), r.Intn(9)))
	}
	if filled("S") {
		c.Stmt = r.Uint32() >> r.Intn(32)
	}
	if filled("P") {
		c.Param = uint16(r.Uint32() >> r.Intn(32))
	}
	if filled("F") {
		c.Flags = byte(r.Intn(3))
	}
	if filled("C") {
		c.Count = r.Uint32() >> r.Intn(32)
	}
	if filled("O") {
		c.Option = uint16(r.Uint32() >> r.Intn(32))
	}
	if filled("D") {
		c.Data = climbing(byte(r.Int()), r.Intn(9))
	}
	return c
}

func same(a, b api.Command) bool {
	return a.Kind == b.Kind && a.Text == b.Text && a.Stmt == b.Stmt && a.Param == b.Param && a.Flags == b.Flags &&
		a.Count == b.Count && a.Option == b.Option && bytes.Equal(a.Data, b.Data)
}

// brief is what a failed test tells of bytes or of a command.
func brief(x any) string {
	s := fmt.Sprintf("%+v", x)
	if len(s) > 200 {
		s = s[:200] + " .."
	}
	return s
}

// TestSame asks of same that it tells all fields apart.
func TestSame(t *testing.T) {
	for i, a := range eachField() {
		for j, b := range eachField() {
			if same(a.command, b.command) != (i == j) {
				t.Errorf("%s and %s", a.name, b.name)
			}
		}
	}
}
