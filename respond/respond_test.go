package respond_test

import (
	"bytes"
	"math/rand"
	"reflect"
	"slices"
	"strconv"
	"strings"
	"testing"

	"sluicegate/api"
	"sluicegate/command"
	"sluicegate/respond"
)

func responder(t *testing.T, c api.Caps, cmd api.Command, cols []api.Column) *respond.Responder {
	t.Helper()
	r, e := respond.New(c, cmd, cols)
	if r == nil || e != api.OK {
		t.Fatalf("New of %s: %v", kindName(cmd), e)
	}
	return r
}

// hand hands in a file of no packets, where one is wanted.
func hand(r *respond.Responder) {
	if r.Wants() {
		r.File(nil)
	}
}

// told feeds packets, and is what their parts are: each one's kind, with a . behind it, if it is the last one; ! for one that is refused, - for one that comes behind the end.
func told(t *testing.T, c api.Caps, cmd api.Command, cols []api.Column, l ...[]byte) string {
	t.Helper()
	r := responder(t, c, cmd, cols)
	var out []string
	for _, b := range l {
		p, e := r.Feed(b)
		switch s := strconv.Itoa(p.Kind); {
		case e == api.ErrOver:
			out = append(out, "-")
		case e != api.OK:
			out = append(out, "!")
		case p.Last:
			out = append(out, s+".")
		default:
			out = append(out, s)
		}
		hand(r)
	}
	return strings.Join(out, " ")
}

func wantTold(t *testing.T, c api.Caps, cmd api.Command, cols []api.Column, want string, l ...[]byte) {
	t.Helper()
	if got := told(t, c, cmd, cols, l...); got != want {
		t.Errorf("%s, capabilities %x: of %s: %s, and not %s", kindName(cmd), c, brief(l), got, want)
	}
}

func wantLook(t *testing.T, name string, r *respond.Responder, want look) {
	t.Helper()
	if r.Over() != want.over || r.Wants() || r.May() != want.may || !slices.Equal(r.Columns(), want.columns) || r.Status() != want.status {
		t.Errorf("%s: over %v, wants %v, may %v, columns %v, status %d, and not %+v", name, r.Over(), r.Wants(), r.May(), r.Columns(), r.Status(), want)
	}
}

// wantPlain asks that packets are followed as the plain reading does, and tells whether more may come.
func wantPlain(t *testing.T, c api.Caps, cmd api.Command, cols []api.Column, l [][]byte) bool {
	t.Helper()
	want := plain(c, cmd, cols, l)
	name := kindName(cmd) + " of " + brief(l)
	r := responder(t, c, cmd, cols)
	wantLook(t, name, r, want.looks[0])
	for i, b := range l {
		wantPart(t, name, r, b, i, want)
		wantLook(t, name, r, want.looks[min(i+1, len(want.looks)-1)])
	}
	wantN, wantE := len(want.parts), api.OK
	switch {
	case want.refused:
		wantE = api.ErrBad
	case !want.looks[len(want.looks)-1].over:
		wantN, wantE = 0, api.ErrOver
	}
	if n, e := respond.All(c, cmd, cols, l); n != wantN || e != wantE {
		t.Errorf("%s: All: %d, %v, and not %d, %v", name, n, e, wantN, wantE)
	}
	return !want.looks[len(want.looks)-1].over
}

// wantPart feeds the i-th packet.
func wantPart(t *testing.T, name string, r *respond.Responder, b []byte, i int, want reading) {
	t.Helper()
	var part api.Part
	wantE := api.ErrOver
	switch {
	case i < len(want.parts):
		part, wantE = want.parts[i], api.OK
	case i == len(want.parts) && want.refused:
		wantE = api.ErrBad
	}
	p, e := r.Feed(b)
	if e != wantE || !samePart(p, part) {
		t.Errorf("%s: packet %d: %+v, %v, and not %+v, %v", name, i, p, e, part, wantE)
	}
	if p.Kind != api.PartFile {
		return
	}
	if !r.Wants() || r.May() || r.Over() {
		t.Errorf("%s: packet %d asks for a file, and none is wanted", name, i)
	}
	hand(r)
}

// samePart holds parts against each other, of which a Track of no bytes may be nil or not.
func samePart(a, b api.Part) bool {
	if !bytes.Equal(a.Ok.Track, b.Ok.Track) {
		return false
	}
	a.Ok.Track, b.Ok.Track = nil, nil
	return reflect.DeepEqual(a, b)
}

func TestExamples(t *testing.T) {
	a := described(named("a", api.TypeVarString))
	row := counted("7")
	wantTold(t, needed, of(api.ComPing), nil, "1. -", []byte{0, 0, 0, 2, 0, 0, 0}, ok(2))
	wantTold(t, needed, query(), nil, "4 5 6 7 8.", count(1), a, eof(2), row, eof(2))
	wantTold(t, needed|noEofs, query(), nil, "4 5 7 8.", count(1), a, row, []byte{254, 0, 0, 2, 0, 0, 0})
	wantTold(t, needed, query(), nil, "1 2.", ok(8), refusal())
	wantTold(t, needed, query(), nil, "4 5 6 ! -", count(1), a, eof(2), join(row, row), eof(2))
	if !responder(t, needed, of(api.ComClose), nil).Over() {
		t.Error("a close is not over")
	}
}

func TestP22_1Caps(t *testing.T) {
	for _, c := range allCaps() {
		responder(t, c, query(), nil)
		responder(t, c|1<<31|1, query(), nil)
		for _, missing := range list(api.CapProtocol41, api.CapSecure, api.CapPluginAuth, api.CapTransactions, needed) {
			wantNone(t, c&^missing, query(), nil)
		}
	}
}

func wantNone(t *testing.T, c api.Caps, cmd api.Command, cols []api.Column) {
	t.Helper()
	if r, e := respond.New(c, cmd, cols); r != nil || e != api.ErrArg {
		t.Errorf("New of %x, %+v, %d columns: %v, %v", c, cmd, len(cols), r, e)
	}
	for _, l := range list(nil, packets(ok(2)), packets(nil)) {
		if n, e := respond.All(c, cmd, cols, l); n != 0 || e != api.ErrArg {
			t.Errorf("All of %x, %+v, %d columns: %d, %v", c, cmd, len(cols), n, e)
		}
	}
}

func TestP22_1Commands(t *testing.T) {
	for _, cmd := range commands() {
		responder(t, needed, cmd, nil)
		cmd.Option, cmd.Param = 1, 1
		wantNone(t, needed, cmd, nil)
	}
	wantNone(t, needed, of(api.ComChangeUser), nil)
	wantNone(t, needed, api.Command{Kind: api.ComChangeUser, Data: []byte{1}}, nil)
	wantNone(t, needed, execute(2), nil)
	wantNone(t, needed, api.Command{Kind: api.ComPing, Text: "x"}, nil)
	wantNone(t, needed, api.Command{Kind: api.ComPing, Data: []byte{0}}, nil)
	wantNone(t, needed, api.Command{Kind: api.ComFetch, Stmt: 1, Flags: 1}, nil)
}

func TestP22_1Columns(t *testing.T) {
	few := append(columnsOf("a", "b"), wholeColumn())
	most := slices.Repeat(columnsOf("a"), api.MaxColumns)
	long := api.Column{Name: "a", Type: api.TypeTiny, OrgName: strings.Repeat("x", 256)}
	for _, cmd := range cases() {
		responder(t, needed, cmd, few)
		responder(t, needed, cmd, most)
		wantNone(t, needed, cmd, append(most, named("a", api.TypeTiny)))
		for i := range few {
			for _, wrong := range list(named("a", 14), long) {
				l := slices.Clone(few)
				l[i] = wrong
				wantNone(t, needed, cmd, l)
			}
		}
	}
	long.OrgName = long.OrgName[1:]
	responder(t, needed, fetch(), list(long))
}

// TestP22_2Kinds has what each kind of command may be answered by, of the packets with which answers begin.
func TestP22_2Kinds(t *testing.T) {
	beginnings := packets(ok(2), ok(2|more), last(2), refusal(), eof(2), file(), count(1), prepared(0, 0), prepared(1, 0), []byte{'s'}, []byte{0, 0}, nil)
	ways := map[int]string{
		api.AnswerErr:     "! ! ! 2. ! ! ! ! ! ! ! !",
		api.AnswerOk:      "1. 1. ! 2. ! ! ! 1. 1. ! ! !",
		api.AnswerEof:     "1. 1. ! 2. 6. ! ! 1. 1. ! ! !",
		api.AnswerText:    "10. 10. 10. 2. 10. 10. 10. 10. 10. 10. 10. !",
		api.AnswerResult:  "1. 1 ! 2. ! 3 4 1. 1. 4 ! !",
		api.AnswerPrepare: "! ! ! 2. ! ! ! 9. 9 ! ! !",
	}
	for kind := range 256 {
		cmd := of(byte(kind))
		want := ways[command.Answer(cmd.Kind)]
		if want == "" {
			continue
		}
		var got []string
		for _, b := range beginnings {
			got = append(got, told(t, needed|files, cmd, nil, b))
		}
		if s := strings.Join(got, " "); s != want {
			t.Errorf("%s: %s, and not %s", kindName(cmd), s, want)
		}
	}
}

func TestP22_2None(t *testing.T) {
	for _, c := range allCaps() {
		for _, kind := range list(api.ComQuit, api.ComLongData, api.ComClose) {
			wantTold(t, c, of(kind), nil, "- -", ok(2), nil)
			wantPlain(t, c, of(kind), nil, nil)
		}
	}
}

// TestP22_2Options is answered by an EOF of five bytes, whatever the capabilities.
func TestP22_2Options(t *testing.T) {
	for _, c := range allCaps() {
		for _, b := range packets(append(eof(2), 0), eof(2)[:4], last(2), file(), []byte{254}, []byte{253, 0, 0, 2, 0}) {
			wantTold(t, c, of(api.ComSetOption), nil, "!", b)
		}
		wantTold(t, c, of(api.ComSetOption), nil, "6. -", eof(more), eof(2))
		wantTold(t, c, of(api.ComSetOption), nil, "1.", ok(more))
		wantTold(t, c, of(api.ComSetOption), nil, "2.", refusal())
	}
}

func TestP22_2Text(t *testing.T) {
	for x := range 256 {
		want := "10. -"
		if x == 255 {
			want = "! -"
		}
		wantTold(t, needed, of(api.ComStatistics), nil, want, []byte{byte(x)}, []byte{'s'})
	}
	wantTold(t, needed, of(api.ComStatistics), nil, "2. -", refusal(), []byte{'s'})
	wantTold(t, needed, of(api.ComStatistics), nil, "! -", nil, []byte{'s'})
}

// TestP22_2Wrong has packets whose first byte may come, and that are refused by what stands behind it.
func TestP22_2Wrong(t *testing.T) {
	for _, cmd := range cases() {
		for _, b := range packets([]byte{255}, []byte{255, 1, 4, 'x'}, refusal()[:8]) {
			if !responder(t, needed, cmd, nil).Over() {
				wantTold(t, needed, cmd, nil, "! -", b, refusal())
			}
		}
	}
	for _, b := range packets([]byte{0}, ok(2)[:6], []byte{0, 251, 0, 2, 0, 0, 0}) {
		wantTold(t, needed, of(api.ComPing), nil, "!", b)
		wantTold(t, needed, query(), nil, "!", b)
	}
	for _, b := range packets([]byte{251}, []byte{0}, []byte{252, 1, 0}, []byte{252, 1, 16}, []byte{1, 0}, []byte{254, 1, 0, 0, 0, 0, 0, 0, 0}) {
		wantTold(t, needed|files, query(), nil, "!", b)
	}
	wantTold(t, needed, query(), nil, "!", file())
	for _, b := range packets([]byte{0}, prepared(1, 1)[:11], append(prepared(1, 1), 0), []byte{1}) {
		wantTold(t, needed, of(api.ComPrepare), nil, "!", b)
	}
}

// TestP22_2Tracked reads OKs by the capabilities.
func TestP22_2Tracked(t *testing.T) {
	track := []byte("\x00\x01\x02\x02\x40\x00\x00\x01i\x02\x05\x01")
	for _, c := range allCaps() {
		p, e := responder(t, c, query(), nil).Feed(track)
		want := api.Ok{Affected: 1, Insert: 2, Status: 2 | changed, Info: "\x01i\x02\x05\x01"}
		if c&tracks != 0 {
			want.Info, want.Track = "i", []byte{5, 1}
		}
		if e != api.OK || !samePart(p, api.Part{Kind: api.PartOk, Last: true, Ok: want}) {
			t.Errorf("capabilities %x: %+v, %v", c, p, e)
		}
		short := strings.TrimSuffix(told(t, c, query(), nil, track[:11]), ".")
		if c&tracks != 0 && short != "!" || c&tracks == 0 && short != "1" {
			t.Errorf("capabilities %x, a Track that ends too early: %s", c, short)
		}
	}
}

// TestP22_2Results has results one behind the other, as long as their ends say that more come.
func TestP22_2Results(t *testing.T) {
	a, n, text := described(named("a", api.TypeVarString)), count(1), counted("7")
	for _, tail := range []struct {
		want string
		l    [][]byte
	}{
		{"1. -", packets(ok(2), ok(2))},
		{"2. -", packets(refusal(), ok(2))},
		{"1 1 1.", packets(ok(more), ok(more), ok(0))},
		{"4 5 6 8. -", packets(n, a, eof(2), eof(2), ok(2))},
		{"4 5 6 2. -", packets(n, a, eof(2), refusal(), ok(2))},
		{"4 5 6 7 7 2.", packets(n, a, eof(2), text, text, refusal())},
		{"4 5 6 7 7 8 4 5 6 8 2.", packets(n, a, eof(2), text, []byte{251}, eof(more), n, a, eof(2), eof(more), refusal())},
		{"4 5 6 8.", packets(n, a, eof(more), eof(2))},
		{"4 5 6 8.", packets(n, a, eof(cursor), eof(cursor))},
		{"3 1. -", packets(file(), ok(2), ok(2))},
		{"3 1 3 1 3 2.", packets(file(), ok(more), file(), ok(more), file(), refusal())},
		{"3 !", packets(file(), n)},
		{"3 !", packets(file(), file())},
		{"3 !", packets(file(), last(2))},
		{"3 !", packets(file(), nil)},
		{"4 !", packets(n, eof(2))},
		{"4 !", packets(n, refusal())},
		{"4 5 !", packets(n, a, a)},
		{"4 5 !", packets(n, a, refusal())},
		{"4 5 !", packets(n, a, ok(2))},
		{"4 5 !", packets(n, a, append(eof(2), 0))},
		{"4 5 5 6", packets(count(2), a, a, eof(2))},
		{"4 5 !", packets(count(2), a, eof(2))},
		{"1 !", packets(ok(more), eof(2))},
		{"1 4 5 6 7 8.", packets(ok(more), n, a, eof(2), text, eof(2))},
	} {
		for _, ahead := range list(nil, packets(ok(more)), packets(n, a, eof(2), text, eof(more)), packets(file(), ok(more))) {
			c := needed | files
			front := told(t, c, query(), nil, ahead...)
			wantTold(t, c, query(), nil, strings.TrimSpace(front+" "+tail.want), slices.Concat(ahead, tail.l)...)
		}
	}
}

// TestP22_2NoEofs has the same with DeprecateEOF.
func TestP22_2NoEofs(t *testing.T) {
	a, n, text := described(named("a", api.TypeVarString)), count(1), counted("7")
	for _, s := range []struct {
		want string
		l    [][]byte
	}{
		{"4 5 8.", packets(n, a, last(2))},
		{"4 5 2.", packets(n, a, refusal())},
		{"4 5 7 7 8 1.", packets(n, a, text, text, last(more), ok(2))},
		{"4 5 8 4 5 8.", packets(n, a, last(more), n, a, last(2))},
		{"4 5 8.", packets(n, a, last(cursor))},
		{"4 5 !", packets(n, a, eof(2))},
		{"4 5 !", packets(n, a, []byte{254, 0, 0, 2, 0, 0})},
		{"4 5 7 8.", packets(n, a, []byte{0}, last(2))},
		{"4 5 5 !", packets(count(2), a, a, []byte{0})},
		{"4 !", packets(n, last(2))},
		{"!", packets(last(2))},
	} {
		wantTold(t, needed|noEofs, query(), nil, s.want, s.l...)
	}
}

// TestP22_2FiveBytes has an end that has bytes behind it, where EOFs come: it is a row, if it is one.
func TestP22_2FiveBytes(t *testing.T) {
	a, n := described(named("a", api.TypeVarString)), count(1)
	wantTold(t, needed, query(), nil, "4 5 6 !", n, a, eof(2), last(2))
	wantTold(t, needed, query(), nil, "4 5 6 !", n, a, eof(2), eof(2)[:4])
	wantTold(t, needed, query(), nil, "4 5 6 7 8.", n, a, eof(2), []byte("\xfe\x02\x00\x00\x00\x00\x00\x00\x00ab"), eof(2))
}

// TestP22_2GreatRows has rows that begin as an OK does, and are too long to be one.
func TestP22_2GreatRows(t *testing.T) {
	a, n := described(named("a", api.TypeVarString)), count(1)
	size := api.MaxFrame - 9
	b := join([]byte{254, byte(size), byte(size >> 8), byte(size >> 16), 0, 0, 0, 0, 0}, bytes.Repeat([]byte{'x'}, size))
	shorter := join([]byte{254, byte(size - 1), byte(size >> 8), byte(size >> 16)}, b[4:api.MaxFrame-1])
	wantTold(t, needed|noEofs, query(), nil, "4 5 7 8.", n, a, b, last(2))
	wantTold(t, needed|noEofs, query(), nil, "4 5 !", n, a, b[:len(b)-1])
	wantTold(t, needed|noEofs, query(), nil, "4 5 !", n, a, shorter)
	wantTold(t, needed, query(), nil, "4 5 6 7 7 8.", n, a, eof(2), b, shorter, eof(2))
}

// TestP22_2Executes reads binary rows by the columns' types.
func TestP22_2Executes(t *testing.T) {
	signed, natural := named("a", api.TypeTiny), api.Column{Name: "b", Type: api.TypeTiny, Flags: api.FlagUnsigned}
	head := packets(count(2), described(signed), described(natural), eof(2))
	for _, s := range []struct {
		want string
		row  []byte
	}{
		{"7", []byte{0, 0, 255, 255}},
		{"7", []byte{0, 4, 255}},
		{"7", []byte{0, 12}},
		{"!", []byte{0, 0, 255}},
		{"!", []byte{0, 0, 255, 255, 0}},
		{"!", []byte{0, 16, 1, 1}},
		{"!", []byte{1, 0, 1, 1}},
		{"!", []byte{0}},
		{"!", nil},
		{"!", []byte{251, 251}},
	} {
		for _, flags := range list[byte](0, 1) {
			wantTold(t, needed, execute(flags), nil, "4 5 5 6 "+s.want, append(slices.Clone(head), s.row)...)
		}
		wantTold(t, needed, fetch(), list(signed, natural), s.want, s.row)
	}
	wantTold(t, needed, query(), nil, "4 5 5 6 7 !", append(slices.Clone(head), []byte{251, 251}, []byte{0, 12})...)
}

// TestP22_2Types has rows of each type, which must be read as that type.
func TestP22_2Types(t *testing.T) {
	for _, s := range []struct {
		kind byte
		row  []byte
	}{
		{api.TypeTiny, []byte{0, 0, 1}},
		{api.TypeShort, []byte{0, 0, 1, 0}},
		{api.TypeLong, []byte{0, 0, 1, 0, 0, 0}},
		{api.TypeLongLong, []byte{0, 0, 1, 0, 0, 0, 0, 0, 0, 0}},
		{api.TypeDate, []byte{0, 0, 4, 234, 7, 11, 15}},
		{api.TypeTime, []byte{0, 0, 8, 0, 0, 0, 0, 0, 1, 2, 3}},
		{api.TypeVarString, []byte{0, 0, 2, 'a', 'b'}},
		{api.TypeNull, []byte{0, 4}},
	} {
		for _, flags := range list[uint16](0, api.FlagUnsigned) {
			c := api.Column{Name: "a", Type: s.kind, Flags: flags}
			wantTold(t, needed, fetch(), list(c), "7 !", s.row, append(slices.Clone(s.row), 1))
			wantTold(t, needed, execute(0), nil, "4 5 6 7 !", count(1), described(c), eof(2), s.row, s.row[:len(s.row)-1])
		}
	}
}

// TestP22_2Cursors has executes with a cursor and without, whose columns' EOF says that one is open, or does not.
func TestP22_2Cursors(t *testing.T) {
	a, n, row := described(named("a", api.TypeTiny)), count(1), []byte{0, 0, 1}
	for _, status := range list[uint16](cursor, cursor|2, cursor|more, 0xffff) {
		wantTold(t, needed, execute(1), nil, "4 5 6. -", n, a, eof(status), row)
		wantTold(t, needed, execute(0), nil, "4 5 6 7", n, a, eof(status), row)
	}
	for _, status := range list[uint16](0, 2, more, 0xffff&^cursor) {
		wantTold(t, needed, execute(1), nil, "4 5 6 7 8.", n, a, eof(status), row, eof(2))
	}
	wantTold(t, needed, execute(1), nil, "4 5 6 8 4 5 6.", n, a, eof(2), eof(cursor|more), n, a, eof(cursor))
	wantTold(t, needed, execute(1), nil, "1. -", ok(cursor), row)
	wantTold(t, needed|noEofs, execute(1), nil, "4 5 8.", n, a, last(cursor))
	wantTold(t, needed|noEofs, execute(1), nil, "4 5 7 8 1.", n, a, row, last(cursor|more), ok(2))
}

// TestP22_2Fetches has rows that end whatever their end's status says.
func TestP22_2Fetches(t *testing.T) {
	cols := list(named("a", api.TypeTiny))
	row := []byte{0, 0, 1}
	for _, status := range list[uint16](0, 2, more, cursor, 0xffff&^changed) {
		wantTold(t, needed, fetch(), cols, "7 7 8. -", row, row, eof(status), row)
		wantTold(t, needed|noEofs, fetch(), cols, "7 8. -", row, last(status), row)
		wantTold(t, needed, fetch(), cols, "8.", eof(status))
	}
	wantTold(t, needed, fetch(), cols, "7 2. -", row, refusal(), row)
	wantTold(t, needed, fetch(), cols, "!", ok(2))
	wantTold(t, needed, fetch(), cols, "!", last(2))
	wantTold(t, needed|noEofs, fetch(), cols, "!", eof(2))
	wantTold(t, needed, fetch(), nil, "7 8.", []byte{0, 0}, eof(2))
	wantTold(t, needed, fetch(), nil, "!", []byte{0, 4})
}

// TestP22_2Prepares has parameters and columns, some of each, and none.
func TestP22_2Prepares(t *testing.T) {
	a := described(named("a", api.TypeTiny))
	for columns := range uint16(4) {
		for params := range uint16(4) {
			for _, c := range list(needed, needed|noEofs) {
				l, want := packets(prepared(columns, params)), list("9")
				for _, n := range list(params, columns) {
					for range n {
						l, want = append(l, a), append(want, "5")
					}
					if n > 0 && c&noEofs == 0 {
						l, want = append(l, eof(more)), append(want, "6")
					}
				}
				wantTold(t, c, of(api.ComPrepare), nil, strings.Join(want, " ")+". -", append(l, a)...)
			}
		}
	}
	for _, wrong := range packets(refusal(), ok(2), []byte{0, 0}, nil, last(2)) {
		wantTold(t, needed, of(api.ComPrepare), nil, "9 !", prepared(1, 1), wrong)
		wantTold(t, needed, of(api.ComPrepare), nil, "9 5 !", prepared(1, 1), a, wrong)
		wantTold(t, needed, of(api.ComPrepare), nil, "9 5 6 !", prepared(1, 1), a, eof(2), wrong)
		wantTold(t, needed|noEofs, of(api.ComPrepare), nil, "9 5 !", prepared(1, 1), a, wrong)
	}
	wantTold(t, needed, of(api.ComPrepare), nil, "9 5 !", prepared(1, 0), a, a)
	wantTold(t, needed, of(api.ComPrepare), nil, "9 !", prepared(1, 0), eof(2))
}

// TestP22_2Parts has what parts say.
func TestP22_2Parts(t *testing.T) {
	whole := api.Ok{Affected: 1, Insert: 300, Status: 2, Warnings: 3, Info: "info"}
	bytesOf := []byte("\x00\x01\xfc\x2c\x01\x02\x00\x03\x00info")
	end := join([]byte{254}, bytesOf[1:])
	x := api.Err{Code: 1064, State: "42000", Text: "no"}
	a, n := described(named("a", api.TypeTiny)), count(1)
	for _, s := range []struct {
		c    api.Caps
		cmd  api.Command
		l    [][]byte
		want api.Part
	}{
		{needed, of(api.ComPing), packets(bytesOf), api.Part{Kind: 1, Last: true, Ok: whole}},
		{needed, of(api.ComPing), packets(refusal()), api.Part{Kind: 2, Last: true, Err: x}},
		{needed, query(), packets(bytesOf), api.Part{Kind: 1, Last: true, Ok: whole}},
		{needed, of(api.ComSetOption), packets([]byte{254, 1, 2, 3, 4}), api.Part{Kind: 6, Last: true, Eof: api.Eof{Warnings: 513, Status: 1027}}},
		{needed, query(), packets(n, a, []byte{254, 1, 2, 3, 4}), api.Part{Kind: 6, Eof: api.Eof{Warnings: 513, Status: 1027}}},
		{needed, query(), packets(n, a, eof(2), []byte{254, 1, 2, 3, 4}), api.Part{Kind: 8, Last: true, Eof: api.Eof{Warnings: 513, Status: 1027}}},
		{needed, query(), packets(n, a, eof(2), refusal()), api.Part{Kind: 2, Last: true, Err: x}},
		{needed | noEofs, query(), packets(n, a, end), api.Part{Kind: 8, Last: true, Ok: whole}},
		{needed, of(api.ComPrepare), packets(prepared(0, 515)), api.Part{Kind: 9, Prepared: api.Prepared{Stmt: 9, Params: 515, Warnings: 1}}},
		{needed, of(api.ComPrepare), packets(prepared(515, 0)), api.Part{Kind: 9, Prepared: api.Prepared{Stmt: 9, Columns: 515, Warnings: 1}}},
	} {
		r := responder(t, s.c, s.cmd, nil)
		var p api.Part
		for _, b := range s.l {
			p, _ = r.Feed(b)
		}
		if !samePart(p, s.want) {
			t.Errorf("%s of %s: %+v, and not %+v", kindName(s.cmd), brief(s.l), p, s.want)
		}
	}
}

// TestP22_2Order has calls that come where others are wanted, which change nothing.
func TestP22_2Order(t *testing.T) {
	for _, cmd := range list(query(), execute(0), execute(1)) {
		r := responder(t, needed|files, cmd, nil)
		wantFile(t, r, []byte("x"), api.ErrOrder)
		wantFile(t, r, nil, api.ErrOrder)
		r.Feed(file())
		for range 3 {
			for _, b := range packets(ok(2), refusal(), []byte("x"), nil) {
				if p, e := r.Feed(b); e != api.ErrOrder || !samePart(p, api.Part{}) {
					t.Errorf("Feed, where a file is wanted: %+v, %v", p, e)
				}
			}
			wantFile(t, r, []byte("x"), api.OK)
			if !r.Wants() || r.May() || r.Over() || r.Status() != 0 {
				t.Errorf("behind a packet of a file: wants %v, may %v, over %v, status %d", r.Wants(), r.May(), r.Over(), r.Status())
			}
		}
		wantFile(t, r, []byte{}, api.OK)
		wantLook(t, "behind a file", r, look{may: true})
		wantFile(t, r, nil, api.ErrOrder)
		if p, e := r.Feed(ok(2)); e != api.OK || !p.Last {
			t.Errorf("behind a file: %+v, %v", p, e)
		}
		wantFile(t, r, nil, api.ErrOver)
		wantLook(t, "behind the end", r, look{over: true, status: 2})
	}
}

func wantFile(t *testing.T, r *respond.Responder, b []byte, want api.Errno) {
	t.Helper()
	if e := r.File(b); e != want {
		t.Errorf("File of %d bytes: %v, and not %v", len(b), e, want)
	}
}

// TestP22_2Refused has answers that were refused, which stay over.
func TestP22_2Refused(t *testing.T) {
	r := responder(t, needed, query(), nil)
	for _, b := range packets(ok(more|1), count(2), described(named("a", api.TypeTiny)), eof(2)) {
		r.Feed(b)
	}
	want := look{over: true, columns: list(named("a", api.TypeTiny)), status: more | 1}
	for range 3 {
		wantLook(t, "refused", r, want)
		if p, e := r.Feed(refusal()); e != api.ErrOver || !samePart(p, api.Part{}) {
			t.Errorf("Feed of a refused answer: %+v, %v", p, e)
		}
		wantFile(t, r, nil, api.ErrOver)
	}
}

// TestP22_3Columns has columns of several results, as they come.
func TestP22_3Columns(t *testing.T) {
	l := list(wholeColumn(), named("a", api.TypeTiny), named("b", api.TypeVarString))
	for _, cmd := range list(query(), execute(0), execute(1)) {
		r := responder(t, needed, cmd, columnsOf("x"))
		wantLook(t, "at first", r, look{may: true})
		r.Feed(ok(more))
		for _, l := range list(l, l[1:], l[:1]) {
			r.Feed(count(byte(len(l))))
			for i, c := range l {
				wantLook(t, "while columns come", r, look{columns: l[:i], status: r.Status()})
				r.Feed(described(c))
			}
			wantLook(t, "ahead of an EOF", r, look{columns: l, status: r.Status()})
			r.Feed(eof(2))
			wantLook(t, "ahead of rows", r, look{may: true, columns: l, status: 2})
			r.Feed(eof(more))
			wantLook(t, "behind rows", r, look{may: true, columns: l, status: more})
		}
		r.Feed(ok(2))
		wantLook(t, "behind all", r, look{over: true, columns: l[:1], status: 2})
	}
}

// TestP22_3Fetched has the columns that were handed in; of all other commands they are looked at, and no more.
func TestP22_3Fetched(t *testing.T) {
	l := list(wholeColumn(), named("a", api.TypeTiny), named("a", api.TypeTiny))
	for _, cmd := range cases() {
		r := responder(t, needed, cmd, l)
		var want []api.Column
		if cmd.Kind == api.ComFetch {
			want = l
		}
		wantLook(t, kindName(cmd), r, look{over: r.Over(), may: !r.Over(), columns: want})
	}
	r := responder(t, needed, fetch(), l)
	r.Feed([]byte{0, 4 + 8 + 16})
	r.Feed(eof(2))
	wantLook(t, "a fetch", r, look{over: true, columns: l, status: 2})
}

func TestP22_3Prepared(t *testing.T) {
	a := described(named("a", api.TypeTiny))
	r := responder(t, needed, of(api.ComPrepare), nil)
	for i, b := range packets(prepared(2, 1), a, eof(3), a, a) {
		r.Feed(b)
		want := look{}
		if i >= 2 {
			want.status = 3
		}
		wantLook(t, "a prepare", r, want)
	}
	r.Feed(eof(4))
	wantLook(t, "a prepare", r, look{over: true, status: 4})
}

// TestP22_3Status is that of OKs, EOFs and ends alone.
func TestP22_3Status(t *testing.T) {
	for _, s := range []struct {
		c    api.Caps
		cmd  api.Command
		want uint16
		l    [][]byte
	}{
		{needed, of(api.ComPing), 513, packets(ok(513))},
		{needed, of(api.ComPing), 0, packets(refusal())},
		{needed, of(api.ComSetOption), 513, packets(eof(513))},
		{needed, of(api.ComStatistics), 0, packets([]byte{254, 0, 0, 2, 0})},
		{needed, query(), 9, packets(ok(9), refusal())},
		{needed, query(), 9, packets(ok(9), []byte{0})},
		{needed, query(), 9, packets(ok(9), count(1), described(named("a", api.TypeTiny)))},
		{needed, query(), 5, packets(ok(9), count(1), described(named("a", api.TypeTiny)), eof(5), counted("7"))},
		{needed, query(), 6, packets(ok(9), count(1), described(named("a", api.TypeTiny)), eof(5), counted("7"), eof(6))},
		{needed | noEofs, query(), 6, packets(count(1), described(named("a", api.TypeTiny)), counted("7"), last(6))},
		{needed | files, query(), 0, packets(file())},
		{needed | files, query(), 7, packets(file(), ok(7))},
		{needed, fetch(), 7, packets([]byte{0, 0}, eof(7))},
		{needed | noEofs, fetch(), 7, packets([]byte{0, 0}, last(7))},
	} {
		r := responder(t, s.c, s.cmd, nil)
		for _, b := range s.l {
			r.Feed(b)
			hand(r)
		}
		if r.Status() != s.want {
			t.Errorf("%s of %s: status %d, and not %d", kindName(s.cmd), brief(s.l), r.Status(), s.want)
		}
	}
}

// TestP22_3May has an ERR taken wherever it may come, and refused elsewhere.
func TestP22_3May(t *testing.T) {
	a := described(named("a", api.TypeTiny))
	for _, l := range list(
		packets(count(2), a, a, eof(2), []byte{251, 251}, eof(more), ok(2)),
		packets(ok(more), file(), ok(2)),
	) {
		for n := range l {
			r := responder(t, needed|files, query(), nil)
			for _, b := range l[:n] {
				r.Feed(b)
				hand(r)
			}
			may := r.May()
			if _, e := r.Feed(refusal()); may != (e == api.OK) || r.May() {
				t.Errorf("behind %s: may %v, an ERR: %v", brief(l[:n]), may, e)
			}
		}
	}
}

func TestP22_4All(t *testing.T) {
	a, n, text := described(named("a", api.TypeTiny)), count(1), counted("7")
	for _, s := range []struct {
		cmd   api.Command
		cols  []api.Column
		l     [][]byte
		want  int
		wantE api.Errno
	}{
		{of(api.ComPing), nil, packets(ok(2)), 1, api.OK},
		{of(api.ComPing), nil, packets(ok(2), []byte{1, 2}), 1, api.OK},
		{of(api.ComPing), nil, nil, 0, api.ErrOver},
		{of(api.ComPing), nil, packets(nil), 0, api.ErrBad},
		{of(api.ComClose), nil, nil, 0, api.OK},
		{of(api.ComClose), nil, packets(ok(2), nil), 0, api.OK},
		{query(), nil, packets(n, a, eof(2), text, eof(2), text), 5, api.OK},
		{query(), nil, packets(n, a, eof(2), text, eof(more)), 0, api.ErrOver},
		{query(), nil, packets(n, a, eof(2), text), 0, api.ErrOver},
		{query(), nil, packets(n, a, eof(2), text, nil, eof(2)), 4, api.ErrBad},
		{query(), nil, packets(n, eof(2), a), 1, api.ErrBad},
		{query(), nil, packets(file(), ok(2), nil), 2, api.OK},
		{query(), nil, packets(file(), ok(more), file(), refusal()), 4, api.OK},
		{query(), nil, packets(file()), 0, api.ErrOver},
		{query(), nil, packets(file(), nil), 1, api.ErrBad},
		{fetch(), list(named("a", api.TypeTiny)), packets([]byte{0, 0, 1}, eof(2)), 2, api.OK},
		{fetch(), nil, packets([]byte{0, 0, 1}, eof(2)), 0, api.ErrBad},
		{of(api.ComChangeUser), nil, packets(ok(2)), 0, api.ErrArg},
	} {
		if got, e := respond.All(needed|files, s.cmd, s.cols, s.l); got != s.want || e != s.wantE {
			t.Errorf("All of %s, %s: %d, %v, and not %d, %v", kindName(s.cmd), brief(s.l), got, e, s.want, s.wantE)
		}
	}
}

// TestP22_2Small holds all short lists of a few packets against the plain reading.
func TestP22_2Small(t *testing.T) {
	letters := alphabet()
	cols := list(named("a", api.TypeVarString), named("b", api.TypeTiny))
	var grow func(c api.Caps, cmd api.Command, l [][]byte, n int)
	grow = func(c api.Caps, cmd api.Command, l [][]byte, n int) {
		for _, b := range letters {
			longer := append(l, b)
			if wantPlain(t, c, cmd, cols, longer) && n > 1 && !t.Failed() {
				grow(c, cmd, longer, n-1)
			}
		}
	}
	for _, c := range allCaps() {
		for _, cmd := range cases() {
			n := 4
			if c == needed || c == needed|noEofs {
				n = 5
			}
			grow(c, cmd, make([][]byte, 0, n), n)
		}
	}
}

// TestP22_2Walks goes on, packet by packet, by one that was drawn, wherever that one may come.
func TestP22_2Walks(t *testing.T) {
	random := rand.New(rand.NewSource(22))
	letters := alphabet()
	cols := list(named("b", api.TypeTiny))
	for range 60 {
		for _, c := range allCaps() {
			for _, cmd := range cases() {
				var l [][]byte
				for range 40 {
					longer := append(slices.Clone(l), letters[random.Intn(len(letters))])
					if wantPlain(t, c, cmd, cols, longer) {
						l = longer
					}
					if t.Failed() {
						return
					}
				}
			}
		}
	}
}

// TestP22_5Drawn has answers as a machine tells them: each is over with its last packet, and not ahead.
func TestP22_5Drawn(t *testing.T) {
	random := rand.New(rand.NewSource(5))
	for range 300 {
		for _, c := range allCaps() {
			for _, cmd := range commands() {
				if len(cmd.Data) == 0 && cmd.Kind > 31 && random.Intn(20) > 0 {
					continue
				}
				a := drawAnswer(random, c, cmd)
				wantWhole(t, c, cmd, a)
			}
		}
	}
}

func wantWhole(t *testing.T, c api.Caps, cmd api.Command, a answer) {
	t.Helper()
	r := responder(t, c, cmd, a.cols)
	for i, b := range a.packets {
		if r.Over() {
			t.Fatalf("%s: over ahead of packet %d of %s", kindName(cmd), i, brief(a.packets))
		}
		p, e := r.Feed(b)
		if e != api.OK || p.Kind != a.kinds[i] || p.Last != (i == len(a.packets)-1) {
			t.Fatalf("%s: packet %d of %s: %+v, %v", kindName(cmd), i, brief(a.packets), p, e)
		}
		hand(r)
	}
	if !r.Over() {
		t.Fatalf("%s: not over behind %s", kindName(cmd), brief(a.packets))
	}
	for n := range a.packets {
		if got, e := respond.All(c, cmd, a.cols, a.packets[:n]); got != 0 || e != api.ErrOver {
			t.Fatalf("%s: All of %s: %d, %v", kindName(cmd), brief(a.packets[:n]), got, e)
		}
	}
	longer := append(slices.Clone(a.packets), refusal(), nil)
	if got, e := respond.All(c, cmd, a.cols, longer); got != len(a.packets) || e != api.OK {
		t.Fatalf("%s: All of %s: %d, %v", kindName(cmd), brief(longer), got, e)
	}
}

// TestP22_5Spoilt has answers as a machine tells them, with one packet changed, left out, or told twice.
func TestP22_5Spoilt(t *testing.T) {
	random := rand.New(rand.NewSource(6))
	letters := alphabet()
	for range 150 {
		for _, c := range allCaps() {
			for _, cmd := range cases() {
				a := drawAnswer(random, c, cmd)
				if len(a.packets) == 0 {
					continue
				}
				i := random.Intn(len(a.packets))
				front, back := a.packets[:i:i], a.packets[i+1:]
				other := letters[random.Intn(len(letters))]
				cut := a.packets[i][:random.Intn(len(a.packets[i])+1)]
				for _, middle := range list(nil, packets(other), packets(cut), packets(a.packets[i], a.packets[i]), packets(other, a.packets[i])) {
					wantPlain(t, c, cmd, a.cols, slices.Concat(front, middle, back))
				}
			}
		}
	}
}

// TestT6NotMade has responders that are nil, or that New did not make.
func TestT6NotMade(t *testing.T) {
	made := responder(t, needed, fetch(), columnsOf("a"))
	made.Feed([]byte{0, 4})
	copied := *made
	for _, r := range list(nil, &respond.Responder{}, new(respond.Responder), &copied) {
		for _, b := range packets(nil, ok(2), refusal(), eof(2), file()) {
			if p, e := r.Feed(b); e != api.ErrNil || !samePart(p, api.Part{}) {
				t.Errorf("Feed of no responder: %+v, %v", p, e)
			}
			wantFile(t, r, b, api.ErrNil)
		}
		wantLook(t, "no responder", r, look{})
	}
	wantLook(t, "one that was copied", made, look{may: true, columns: columnsOf("a")})
	if p, e := made.Feed(eof(2)); e != api.OK || !p.Last {
		t.Errorf("one that was copied: %+v, %v", p, e)
	}
}

// TestT6AnyBytes feeds any bytes.
func TestT6AnyBytes(t *testing.T) {
	random := rand.New(rand.NewSource(7))
	for range 1500 {
		for _, cmd := range cases() {
			c := api.Caps(random.Uint32()) | needed
			cmd.Kind += byte(random.Intn(2)) * byte(random.Intn(256))
			r, e := respond.New(c, cmd, columnsOf("a"))
			if e != api.OK {
				continue
			}
			again := responder(t, c, cmd, columnsOf("a"))
			for range 8 {
				b := make([]byte, random.Intn(14))
				random.Read(b)
				if len(b) > 0 {
					b[0] = list[byte](0, 0, 1, 2, 251, 254, 255, b[0])[random.Intn(8)]
				}
				p, e := r.Feed(b)
				p2, e2 := again.Feed(b)
				if !samePart(p, p2) || e != e2 || r.File(b) != again.File(b) || r.May() != again.May() || r.Wants() != again.Wants() || r.Status() != again.Status() {
					t.Errorf("two responders differ at %s", brief(b))
				}
			}
		}
	}
}

// TestT6Most has as many columns, parameters and rows as there may be: time rises with how many there are, and not with their square.
func TestT6Most(t *testing.T) {
	a := described(named("a", api.TypeVarString))
	l := slices.Concat(packets([]byte{252, 0, 16}), slices.Repeat(packets(a), api.MaxColumns), packets(eof(2)))
	row := bytes.Repeat(counted("7"), api.MaxColumns)
	l = slices.Concat(l, slices.Repeat(packets(row), 20), packets(eof(2)))
	if n, e := respond.All(needed, query(), nil, l); n != len(l) || e != api.OK {
		t.Errorf("most columns: %d, %v", n, e)
	}
	l = slices.Concat(packets(prepared(65535, 65535)), slices.Repeat(packets(a), 65535), packets(eof(2)), slices.Repeat(packets(a), 65535), packets(eof(2)))
	if n, e := respond.All(needed, of(api.ComPrepare), nil, l); n != len(l) || e != api.OK {
		t.Errorf("most parameters: %d, %v", n, e)
	}
	l = append(slices.Repeat(packets([]byte{0, 0, 1, '7'}), 1<<18), eof(2))
	if n, e := respond.All(needed, fetch(), columnsOf("a"), l); n != len(l) || e != api.OK {
		t.Errorf("many rows: %d, %v", n, e)
	}
	l = append(slices.Repeat(packets(ok(more)), 1<<18), ok(2))
	if n, e := respond.All(needed, query(), nil, l); n != len(l) || e != api.OK {
		t.Errorf("many results: %d, %v", n, e)
	}
	r := responder(t, needed|files, query(), nil)
	r.Feed(file())
	for range 1 << 18 {
		r.File([]byte("x"))
	}
	if !r.Wants() || r.File(nil) != api.OK || r.Wants() {
		t.Error("a long file")
	}
}
