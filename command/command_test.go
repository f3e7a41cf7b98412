package command_test

import (
	"bytes"
	"fmt"
	"math/rand"
	"strings"
	"testing"

	"sluicegate/api"
	"sluicegate/command"
)

func wantAppend(t *testing.T, b []byte, c api.Command, want []byte) {
	t.Helper()
	if got, e := command.Append(b, c); !bytes.Equal(got, want) || e != api.OK {
		t.Errorf("Append of %s behind %d bytes: %s, %v, want %s", brief(c), len(b), brief(got), e, brief(want))
	}
	if e := command.Check(c); e != api.OK {
		t.Errorf("Check of %s: %v", brief(c), e)
	}
}

func wantRefused(t *testing.T, c api.Command) {
	t.Helper()
	if e := command.Check(c); e != api.ErrArg {
		t.Errorf("Check of %s: %v", brief(c), e)
	}
	for _, b := range [][]byte{nil, {1, 2}} {
		if got, e := command.Append(b, c); len(got) != 0 || e != api.ErrArg {
			t.Errorf("Append of %s: %s, %v", brief(c), brief(got), e)
		}
	}
}

func wantRead(t *testing.T, b []byte, want api.Command) {
	t.Helper()
	if got, e := command.Read(b); !same(got, want) || e != api.OK {
		t.Errorf("Read of %s: %s, %v, want %s", brief(b), brief(got), e, brief(want))
	}
}

// wantError asks of Read for an error, and of WithStmt for the same one.
func wantError(t *testing.T, b []byte, want api.Errno) {
	t.Helper()
	if got, e := command.Read(b); !same(got, api.Command{}) || e != want {
		t.Errorf("Read of %s: %s, %v, want %v", brief(b), brief(got), e, want)
	}
	if got, e := command.WithStmt(b, 9); len(got) != 0 || e != want {
		t.Errorf("WithStmt of %s: %s, %v, want %v", brief(b), brief(got), e, want)
	}
}

// wantPlain asks that bytes are read as the chapter reads them.
func wantPlain(t *testing.T, b []byte) {
	t.Helper()
	c, e := plainRead(b)
	if e != api.OK {
		wantError(t, b, e)
		return
	}
	wantRead(t, b, c)
}

func TestExamples(t *testing.T) {
	wantAppend(t, nil, api.Command{Kind: api.ComQuery, Text: "select 1"}, []byte("\x03select 1"))
	wantRead(t, []byte{14}, api.Command{Kind: api.ComPing})
	wantError(t, []byte{14, 0}, api.ErrBad)
	wantRead(t, []byte{23, 7, 0, 0, 0, 0, 1, 0, 0, 0, 9}, api.Command{Kind: api.ComExecute, Stmt: 7, Data: []byte{9}})
	wantError(t, []byte{23, 7, 0, 0, 0, 2}, api.ErrBad)
	wantError(t, nil, api.ErrShort)
	wantError(t, []byte{25, 1, 2}, api.ErrShort)
	wantRead(t, []byte{200, 5}, api.Command{Kind: 200, Data: []byte{5}})
	if b, e := command.WithStmt([]byte{25, 1, 0, 0, 0}, 9); !bytes.Equal(b, []byte{25, 9, 0, 0, 0}) || e != api.OK {
		t.Errorf("WithStmt of a close: %v, %v", b, e)
	}
	if b, e := command.WithStmt([]byte{14}, 9); len(b) != 0 || e != api.ErrArg {
		t.Errorf("WithStmt of a ping: %v, %v", b, e)
	}
	if command.Name(3) != "query" || command.Name(200) != "command-200" || command.Answer(24) != api.AnswerNone {
		t.Errorf("%s, %s, %d", command.Name(3), command.Name(200), command.Answer(24))
	}
}

// TestKinds asks of package api for the kinds that the chapter names.
func TestKinds(t *testing.T) {
	kinds := []byte{api.ComSleep, api.ComQuit, api.ComInitDB, api.ComQuery, api.ComFieldList, api.ComCreateDB, api.ComDropDB, api.ComRefresh,
		api.ComStatistics, api.ComProcessKill, api.ComPing, api.ComChangeUser, api.ComPrepare, api.ComExecute, api.ComLongData, api.ComClose,
		api.ComStmtReset, api.ComSetOption, api.ComFetch, api.ComReset}
	if !bytes.Equal(kinds, []byte{0, 1, 2, 3, 4, 5, 6, 7, 9, 12, 14, 17, 22, 23, 24, 25, 26, 27, 28, 31}) {
		t.Errorf("the kinds: %v", kinds)
	}
}

// TestP13_1Written has bytes that were written out by hand, of each kind of the table.
func TestP13_1Written(t *testing.T) {
	for _, c := range []struct {
		c    api.Command
		want []byte
	}{
		{api.Command{Kind: api.ComQuit}, []byte{1}},
		{api.Command{Kind: api.ComStatistics}, []byte{9}},
		{api.Command{Kind: api.ComPing}, []byte{14}},
		{api.Command{Kind: api.ComReset}, []byte{31}},
		{api.Command{Kind: api.ComInitDB, Text: "db"}, []byte{2, 'd', 'b'}},
		{api.Command{Kind: api.ComInitDB}, []byte{2}},
		{api.Command{Kind: api.ComQuery, Text: "do 1\x00"}, []byte{3, 'd', 'o', ' ', '1', 0}},
		{api.Command{Kind: api.ComPrepare, Text: "?"}, []byte{22, '?'}},
		{api.Command{Kind: api.ComProcessKill, Count: 0x04030201}, []byte{12, 1, 2, 3, 4}},
		{api.Command{Kind: api.ComExecute, Stmt: 0x08070605, Flags: 1, Data: []byte{9, 0}}, []byte{23, 5, 6, 7, 8, 1, 1, 0, 0, 0, 9, 0}},
		{api.Command{Kind: api.ComExecute}, []byte{23, 0, 0, 0, 0, 0, 1, 0, 0, 0}},
		{api.Command{Kind: api.ComLongData, Stmt: 0x08070605, Param: 0x0403, Data: []byte{9, 0}}, []byte{24, 5, 6, 7, 8, 3, 4, 9, 0}},
		{api.Command{Kind: api.ComLongData}, []byte{24, 0, 0, 0, 0, 0, 0}},
		{api.Command{Kind: api.ComClose, Stmt: 0x08070605}, []byte{25, 5, 6, 7, 8}},
		{api.Command{Kind: api.ComStmtReset, Stmt: 0x08070605}, []byte{26, 5, 6, 7, 8}},
		{api.Command{Kind: api.ComSetOption, Option: 0x0201}, []byte{27, 1, 2}},
		{api.Command{Kind: api.ComFetch, Stmt: 0x08070605, Count: 0x04030201}, []byte{28, 5, 6, 7, 8, 1, 2, 3, 4}},
		{api.Command{Kind: api.ComChangeUser, Data: []byte{'u', 0}}, []byte{17, 'u', 0}},
		{api.Command{Kind: api.ComSleep}, []byte{0}},
		{api.Command{Kind: api.ComFieldList, Data: []byte{'t', 0, '%'}}, []byte{4, 't', 0, '%'}},
	} {
		wantAppend(t, nil, c.c, c.want)
		wantAppend(t, []byte{9, 0}, c.c, join([]byte{9, 0}, c.want))
		wantRead(t, c.want, c.c)
	}
}

// TestP13_1UnknownKinds have Data, empty too, that is all behind their first byte.
func TestP13_1UnknownKinds(t *testing.T) {
	for _, kind := range []byte{0, 4, 5, 6, 7, 8, 10, 11, 13, 15, 16, 17, 18, 19, 20, 21, 29, 30, 32, 33, 128, 200, 254, 255} {
		for _, data := range datas() {
			c := api.Command{Kind: kind, Data: data}
			wantAppend(t, nil, c, join([]byte{kind}, data))
			wantAppend(t, []byte{kind}, c, join([]byte{kind, kind}, data))
			wantRead(t, join([]byte{kind}, data), c)
		}
		wantRefused(t, api.Command{Kind: kind, Text: "a"})
		wantRefused(t, api.Command{Kind: kind, Stmt: 1, Data: []byte{1}})
	}
}

// TestP13_1Commands has all commands behind nothing and behind something, their own bytes too.
func TestP13_1Commands(t *testing.T) {
	for _, c := range commands() {
		own := plainBytes(c)
		for _, b := range [][]byte{nil, {}, {0}, {255, 254, 253}, own, climbing(0, 300)} {
			wantAppend(t, b, c, join(b, own))
		}
		wantRead(t, own, c)
	}
}

type oneField struct {
	name    string
	letter  string
	command api.Command
}

// eachField is commands of a kind that has no field, each with something in one of them.
func eachField() []oneField {
	return []oneField{
		{"none", "", api.Command{}},
		{"another kind", "", api.Command{Kind: 1}},
		{"Text", "T", api.Command{Text: "\x00"}},
		{"Stmt", "S", api.Command{Stmt: 1}},
		{"great Stmt", "S", api.Command{Stmt: 1 << 31}},
		{"Param", "P", api.Command{Param: 1}},
		{"great Param", "P", api.Command{Param: 1 << 15}},
		{"Flags", "F", api.Command{Flags: 1}},
		{"Count", "C", api.Command{Count: 1}},
		{"great Count", "C", api.Command{Count: 1 << 31}},
		{"Option", "O", api.Command{Option: 1}},
		{"great Option", "O", api.Command{Option: 1 << 15}},
		{"Data", "D", api.Command{Data: []byte{0}}},
		{"long Data", "D", api.Command{Data: make([]byte, 256)}},
	}
}

// TestP13_1FieldsOfKinds has of all kinds each field alone not zero, and together with those that the kind has.
func TestP13_1FieldsOfKinds(t *testing.T) {
	for kind := range 256 {
		for _, f := range eachField() {
			c := f.command
			c.Kind = byte(kind)
			if strings.Contains(plainHas(c.Kind), f.letter) {
				wantAppend(t, []byte{3}, c, join([]byte{3}, plainBytes(c)))
				wantRead(t, plainBytes(c), c)
				continue
			}
			wantRefused(t, c)
		}
	}
	for _, c := range basics() {
		for _, f := range eachField() {
			if strings.Contains(plainHas(c.Kind), f.letter) {
				continue
			}
			wantRefused(t, added(c, f.command))
		}
	}
}

// added is a command with what another has beside its kind.
func added(c, other api.Command) api.Command {
	c.Text += other.Text
	c.Stmt |= other.Stmt
	c.Param |= other.Param
	c.Flags |= other.Flags
	c.Count |= other.Count
	c.Option |= other.Option
	c.Data = join(c.Data, other.Data)
	return c
}

func TestP13_1Flags(t *testing.T) {
	for flags := range 256 {
		for kind := range 256 {
			c := api.Command{Kind: byte(kind), Flags: byte(flags)}
			if flags == 0 || flags == 1 && c.Kind == api.ComExecute {
				wantAppend(t, nil, c, plainBytes(c))
				continue
			}
			wantRefused(t, c)
		}
		c := api.Command{Kind: api.ComExecute, Flags: byte(flags), Stmt: 5, Data: []byte{6}}
		if flags > 1 {
			wantRefused(t, c)
		}
	}
}

func TestP13_1Long(t *testing.T) {
	long := climbing(3, 1<<20+1)
	for _, c := range []api.Command{
		{Kind: api.ComQuery, Text: string(long)}, {Kind: api.ComInitDB, Text: string(long)}, {Kind: api.ComPrepare, Text: string(long)},
		{Kind: api.ComExecute, Stmt: 1, Data: long}, {Kind: api.ComLongData, Stmt: 1, Param: 2, Data: long}, {Kind: api.ComChangeUser, Data: long}, {Kind: 200, Data: long},
	} {
		wantAppend(t, []byte{1}, c, join([]byte{1}, plainBytes(c)))
		wantRead(t, plainBytes(c), c)
	}
}

func TestP13_1Drawn(t *testing.T) {
	r := rand.New(rand.NewSource(13))
	for range 30000 {
		c := drawnCommand(r)
		if !plainMay(c) {
			wantRefused(t, c)
			continue
		}
		wantAppend(t, []byte{7}, c, join([]byte{7}, plainBytes(c)))
		wantRead(t, plainBytes(c), c)
	}
}

func TestP13_1Nothing(t *testing.T) {
	wantError(t, nil, api.ErrShort)
	wantError(t, []byte{}, api.ErrShort)
	wantError(t, []byte{14, 1, 2}[:0], api.ErrShort)
}

// TestP13_1Cut cuts each command at every place: within what must be there it is short, behind that it is a shorter Text or Data.
func TestP13_1Cut(t *testing.T) {
	for _, c := range basics() {
		b := plainBytes(c)
		for end := range b {
			if end <= plainSize(c.Kind) {
				wantError(t, b[:end], api.ErrShort)
				continue
			}
			wantPlain(t, b[:end])
		}
	}
	for kind := range 256 {
		b := join([]byte{byte(kind)}, make([]byte, 12))
		for end := range b {
			wantPlain(t, b[:end])
		}
	}
}

// TestP13_1ByteMore has one byte more, and more of them: wrong where nothing may be, else Text or Data.
func TestP13_1ByteMore(t *testing.T) {
	for _, c := range basics() {
		for x := range 256 {
			for _, more := range [][]byte{{byte(x)}, {byte(x), 0}, bytes.Repeat([]byte{byte(x)}, 300)} {
				b := join(plainBytes(c), more)
				switch {
				case strings.Contains(plainHas(c.Kind), "T"):
					wantRead(t, b, added(c, api.Command{Text: string(more)}))
				case strings.Contains(plainHas(c.Kind), "D"):
					wantRead(t, b, added(c, api.Command{Data: more}))
				default:
					wantError(t, b, api.ErrBad)
				}
			}
		}
	}
}

// TestP13_1ReadFlags has each byte for Flags: wrong as soon as it is there, whatever is behind it.
func TestP13_1ReadFlags(t *testing.T) {
	whole := []byte{23, 5, 6, 7, 8, 0, 1, 0, 0, 0, 9}
	for x := range 256 {
		for end := 6; end <= len(whole); end++ {
			b := with(whole, 5, byte(x))[:end]
			switch {
			case x > 1:
				wantError(t, b, api.ErrBad)
			case end < 10:
				wantError(t, b, api.ErrShort)
			default:
				wantRead(t, b, api.Command{Kind: 23, Stmt: 0x08070605, Flags: byte(x), Data: b[10:]})
			}
		}
	}
}

// TestP13_1Times has each byte for each of the four bytes 1 0 0 0: wrong as soon as all four are there, ahead of that short.
func TestP13_1Times(t *testing.T) {
	for _, whole := range [][]byte{{23, 5, 6, 7, 8, 0, 1, 0, 0, 0, 9}, {23, 0, 0, 0, 0, 1, 1, 0, 0, 0, 1, 0, 0, 0}} {
		for at := 6; at < 10; at++ {
			for x := range 256 {
				b := with(whole, at, byte(x))
				for end := at + 1; end < 10; end++ {
					wantError(t, b[:end], api.ErrShort)
				}
				if b[at] == whole[at] {
					wantPlain(t, b)
					continue
				}
				wantError(t, b, api.ErrBad)
				wantError(t, b[:10], api.ErrBad)
			}
		}
	}
}

// TestP13_1TwoFaults has two, of which the left one counts.
func TestP13_1TwoFaults(t *testing.T) {
	for _, c := range []struct {
		b    []byte
		want api.Errno
	}{
		{[]byte{23, 7, 0, 0}, api.ErrShort},
		{[]byte{23, 7, 0, 0, 0}, api.ErrShort},
		{[]byte{23, 7, 0, 0, 0, 2, 1}, api.ErrBad},
		{[]byte{23, 7, 0, 0, 0, 255, 1, 0, 0}, api.ErrBad},
		{[]byte{23, 7, 0, 0, 0, 2, 2, 0, 0}, api.ErrBad},
		{[]byte{23, 7, 0, 0, 0, 0, 2}, api.ErrShort},
		{[]byte{23, 7, 0, 0, 0, 1, 0, 1, 0}, api.ErrShort},
		{[]byte{23, 7, 0, 0, 0, 1, 0, 0, 0, 1}, api.ErrBad},
	} {
		wantError(t, c.b, c.want)
	}
}

func TestP13_1ReadDrawn(t *testing.T) {
	r := rand.New(rand.NewSource(131))
	for range 200000 {
		wantPlain(t, drawnBytes(r))
	}
}

func TestP13_2EachKind(t *testing.T) {
	for kind := range 256 {
		k := byte(kind)
		if name := command.Name(k); name != plainName(k) {
			t.Errorf("Name of %d: %q, want %q", k, name, plainName(k))
		}
		if answer := command.Answer(k); answer != plainAnswer(k) {
			t.Errorf("Answer of %d: %d, want %d", k, answer, plainAnswer(k))
		}
		if about := command.About(k); about != plainAbout(k) {
			t.Errorf("About of %d: %v", k, about)
		}
	}
}

func TestP13_2Written(t *testing.T) {
	for kind, want := range map[byte]string{0: "sleep", 4: "field-list", 7: "refresh", 8: "command-8", 9: "statistics", 10: "command-10", 13: "command-13",
		17: "change-user", 26: "stmt-reset", 29: "command-29", 31: "reset", 32: "command-32", 100: "command-100", 255: "command-255"} {
		if name := command.Name(kind); name != want {
			t.Errorf("Name of %d: %q", kind, name)
		}
	}
	for kind, want := range map[byte]int{api.ComQuit: api.AnswerNone, api.ComPing: api.AnswerOk, api.ComSetOption: api.AnswerEof, api.ComStatistics: api.AnswerText,
		api.ComExecute: api.AnswerResult, api.ComPrepare: api.AnswerPrepare, api.ComFetch: api.AnswerRows, api.ComChangeUser: api.AnswerLogin,
		api.ComSleep: api.AnswerErr, api.ComFieldList: api.AnswerErr, api.ComRefresh: api.AnswerErr, 200: api.AnswerErr} {
		if answer := command.Answer(kind); answer != want {
			t.Errorf("Answer of %d: %d", kind, answer)
		}
	}
}

func wantWithStmt(t *testing.T, b []byte, id uint32) {
	t.Helper()
	want, wantE := plainWithStmt(b, id)
	if got, e := command.WithStmt(b, id); !bytes.Equal(got, want) || e != wantE {
		t.Errorf("WithStmt of %s, %d: %s, %v, want %s, %v", brief(b), id, brief(got), e, brief(want), wantE)
	}
}

// TestP13_3WithStmt has all commands: the id alone changes, where there is one.
func TestP13_3WithStmt(t *testing.T) {
	for _, c := range commands() {
		for _, id := range []uint32{0, 1, 0x04030201, 1 << 31, 1<<32 - 1} {
			wantWithStmt(t, plainBytes(c), id)
		}
	}
	for _, id := range numbers4() {
		for _, c := range basics() {
			wantWithStmt(t, plainBytes(c), id)
		}
	}
}

func TestP13_3Written(t *testing.T) {
	for _, c := range []struct {
		b, want []byte
		e       api.Errno
	}{
		{[]byte{23, 5, 6, 7, 8, 1, 1, 0, 0, 0, 5, 6, 7, 8}, []byte{23, 1, 2, 3, 4, 1, 1, 0, 0, 0, 5, 6, 7, 8}, api.OK},
		{[]byte{24, 5, 6, 7, 8, 5, 6, 5, 6}, []byte{24, 1, 2, 3, 4, 5, 6, 5, 6}, api.OK},
		{[]byte{26, 5, 6, 7, 8}, []byte{26, 1, 2, 3, 4}, api.OK},
		{[]byte{28, 5, 6, 7, 8, 5, 6, 7, 8}, []byte{28, 1, 2, 3, 4, 5, 6, 7, 8}, api.OK},
		{[]byte{12, 5, 6, 7, 8}, nil, api.ErrArg},
		{[]byte{3, 5, 6, 7, 8}, nil, api.ErrArg},
		{[]byte{22, 5, 6, 7, 8}, nil, api.ErrArg},
		{[]byte{17, 5, 6, 7, 8}, nil, api.ErrArg},
		{[]byte{200, 5, 6, 7, 8}, nil, api.ErrArg},
		{[]byte{12, 5, 6, 7}, nil, api.ErrShort},
		{[]byte{12, 5, 6, 7, 8, 9}, nil, api.ErrBad},
		{[]byte{25, 5, 6, 7}, nil, api.ErrShort},
		{[]byte{25, 5, 6, 7, 8, 9}, nil, api.ErrBad},
		{[]byte{23, 5, 6, 7, 8, 2, 1, 0, 0, 0}, nil, api.ErrBad},
		{nil, nil, api.ErrShort},
	} {
		if got, e := command.WithStmt(c.b, 0x04030201); !bytes.Equal(got, c.want) || e != c.e {
			t.Errorf("WithStmt of %v: %v, %v", c.b, got, e)
		}
	}
}

func TestP13_3Drawn(t *testing.T) {
	r := rand.New(rand.NewSource(133))
	for range 100000 {
		wantWithStmt(t, drawnBytes(r), r.Uint32()>>r.Intn(32))
	}
}

// TestP13_4ReadBack has what is appended read back as it was.
func TestP13_4ReadBack(t *testing.T) {
	for _, c := range commands() {
		b, e := command.Append(nil, c)
		if e != api.OK {
			t.Errorf("Append of %s: %v", brief(c), e)
		}
		wantRead(t, b, c)
	}
}

// TestP13_4SameBytes has whatever is read appended: of drawn bytes, and of all that are two.
func TestP13_4SameBytes(t *testing.T) {
	read := 0
	try := func(b []byte) {
		c, e := command.Read(b)
		if e != api.OK {
			return
		}
		read++
		if got, e := command.Append(nil, c); !bytes.Equal(got, b) || e != api.OK {
			t.Errorf("Append of what %s tells: %s, %v", brief(b), brief(got), e)
		}
	}
	r := rand.New(rand.NewSource(134))
	for range 200000 {
		try(drawnBytes(r))
	}
	for kind := range 256 {
		for x := range 256 {
			try([]byte{byte(kind), byte(x)})
			try([]byte{byte(kind), byte(x), byte(kind)})
		}
	}
	if read < 50000 {
		t.Errorf("no more than %d were read", read)
	}
}

// TestP13_4WithStmt has WithStmt of what Append told, and Append of the command with that Stmt.
func TestP13_4WithStmt(t *testing.T) {
	for _, c := range commands() {
		if !command.About(c.Kind) {
			continue
		}
		b, _ := command.Append(nil, c)
		for _, id := range []uint32{0, 1, 0xfdfcfbfa, 1<<32 - 1} {
			got, e := command.WithStmt(b, id)
			other := c
			other.Stmt = id
			want, wantE := command.Append(nil, other)
			if !bytes.Equal(got, want) || e != api.OK || wantE != api.OK {
				t.Errorf("%s with %d: %s, %v, want %s, %v", brief(c), id, brief(got), e, brief(want), wantE)
			}
		}
	}
}

// TestT6 has all calls at arguments of all kinds, and each once more, for the same answer.
func TestT6(t *testing.T) {
	for kind := range 256 {
		for n := range 14 {
			for _, x := range []byte{0, 1, 255} {
				b := join([]byte{byte(kind)}, bytes.Repeat([]byte{x}, n))
				wantPlain(t, b)
				wantPlain(t, b)
				wantWithStmt(t, b, 1<<32-1)
				wantWithStmt(t, b, 1<<32-1)
			}
		}
		c := api.Command{Kind: byte(kind), Text: "t", Stmt: 1<<32 - 1, Param: 1<<16 - 1, Flags: 255, Count: 1<<32 - 1, Option: 1<<16 - 1, Data: []byte{1}}
		wantRefused(t, c)
		wantRefused(t, c)
		if a, b := fmt.Sprint(command.Name(byte(kind)), command.Answer(byte(kind)), command.About(byte(kind))), fmt.Sprint(command.Name(byte(kind)), command.Answer(byte(kind)), command.About(byte(kind))); a != b {
			t.Errorf("%d: %s and %s", kind, a, b)
		}
	}
}
