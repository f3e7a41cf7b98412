package respond_test

import (
	"bytes"
	"slices"
	"strings"
	"testing"
	"unsafe"

	"sluicegate/api"
	"sluicegate/respond"
)

const spare = 60

// isWithin tells whether a text lies in the memory of another one.
func isWithin(s, of string) bool {
	if len(s) < 2 || of == "" {
		return false
	}
	at, from := uintptr(unsafe.Pointer(unsafe.StringData(s))), uintptr(unsafe.Pointer(unsafe.StringData(of)))
	return at >= from && at < from+uintptr(len(of))
}

// roomy is b with spare room behind it, that is full of a byte.
func roomy(b []byte, x byte) []byte {
	return append(bytes.Clone(b), bytes.Repeat([]byte{x}, spare)...)[:len(b)]
}

func isUntouched(b, was []byte, x byte) bool {
	full := b[:len(b)+spare]
	return bytes.Equal(b, was) && bytes.Equal(full[len(b):], bytes.Repeat([]byte{x}, spare))
}

func spoil(b []byte) {
	for i := range b[:cap(b)] {
		b[:cap(b)][i] = 0xee
	}
}

// TestRule4Feed leaves packets as they were, and keeps none; their spare room is neither read nor written.
func TestRule4Feed(t *testing.T) {
	a := wholeColumn()
	track := join([]byte{0, 1, 2}, two(more|changed), []byte{0, 0}, counted("information"), counted("track"))
	l := packets(track, file(), ok(more), count(1), described(a), eof(2), counted("7"), []byte{251}, eof(more), refusal())
	want := plain(needed|files|tracks, query(), nil, l)
	for x := range 256 {
		r := responder(t, needed|files|tracks, query(), nil)
		var parts []api.Part
		for i, was := range l {
			b := roomy(was, byte(x))
			p, e := r.Feed(b)
			if e != api.OK || !isUntouched(b, was, byte(x)) {
				t.Fatalf("spare room of %d, packet %d: %v, changed or not", x, i, e)
			}
			spoil(b)
			parts = append(parts, p)
			if r.Wants() {
				b := roomy(nil, byte(x))
				wantFile(t, r, b, api.OK)
				if !isUntouched(b, nil, byte(x)) {
					t.Errorf("a file's packet was changed")
				}
			}
		}
		if !slices.EqualFunc(parts, want.parts, samePart) || !slices.Equal(r.Columns(), list(a)) {
			t.Errorf("spare room of %d: %+v, %v", x, parts, r.Columns())
		}
	}
}

// TestRule4Short has packets that would be whole with what stands in their spare room.
func TestRule4Short(t *testing.T) {
	for _, b := range packets(ok(2), refusal()) {
		for n := range b {
			wantPlain(t, needed, of(api.ComPing), nil, packets(b[:n]))
			wantPlain(t, needed|noEofs|tracks, query(), nil, packets(b[:n]))
		}
	}
	for n := range prepared(1, 1) {
		wantTold(t, needed, of(api.ComPrepare), nil, "!", prepared(1, 1)[:n])
	}
	full := eof(2)
	wantTold(t, needed, of(api.ComSetOption), nil, "!", full[:4])
	wantTold(t, needed, of(api.ComStatistics), nil, "!", full[:0])
	longer := append(eof(2), 0, 0)
	wantTold(t, needed, fetch(), nil, "8.", longer[:5])
}

// TestRule4Parts has parts that share no memory with one another.
func TestRule4Parts(t *testing.T) {
	b := join([]byte{0, 1, 2}, two(changed), []byte{0, 0}, counted("information"), counted("track"))
	first, _ := responder(t, needed|tracks, query(), nil).Feed(b)
	second, _ := responder(t, needed|tracks, query(), nil).Feed(b)
	spoil(first.Ok.Track)
	if string(second.Ok.Track) != "track" || !bytes.HasSuffix(b, []byte("track")) {
		t.Errorf("a Track shares memory: %q, %q", second.Ok.Track, b)
	}
}

// TestRule4Columns has columns that are kept apart from those that were handed in, and from those that were answered.
func TestRule4Columns(t *testing.T) {
	was := list(wholeColumn(), named("abc", api.TypeTiny), wholeColumn())
	full := append(slices.Clone(was), slices.Repeat(list(named("odd", 14)), spare)...)
	l := full[:len(was)]
	r := responder(t, needed, fetch(), l)
	if !slices.Equal(l, was) || !slices.Equal(full[len(was):], slices.Repeat(list(named("odd", 14)), spare)) {
		t.Errorf("what was handed in was changed: %v", full)
	}
	for i, c := range r.Columns() {
		for k, s := range textsOf(c) {
			if isWithin(s, textsOf(l[i])[k]) {
				t.Errorf("the text %q is in the memory of what was handed in", s)
			}
		}
	}
	for i := range full {
		full[i] = named("odd", 14)
	}
	for range 3 {
		got := r.Columns()
		if !slices.Equal(got, was) {
			t.Errorf("columns share memory: %v", got)
		}
		got = got[:cap(got)]
		for i := range got {
			got[i] = named("odd", 14)
		}
	}
	if _, e := r.Feed([]byte{0, 4 + 8 + 16}); e != api.OK {
		t.Errorf("a row of what was kept: %v", e)
	}
}

func textsOf(c api.Column) []string {
	return list(c.Schema, c.Table, c.OrgTable, c.Name, c.OrgName)
}

// TestRule4Came has columns that came, answered while others come.
func TestRule4Came(t *testing.T) {
	want := columnsOf("aa", "bb", "cc", "dd")
	r := responder(t, needed, query(), nil)
	r.Feed(count(4))
	var looks [][]api.Column
	for _, b := range describedAll(want) {
		r.Feed(b)
		looks = append(looks, r.Columns())
	}
	for i, l := range looks {
		if !slices.Equal(l, want[:i+1]) {
			t.Errorf("columns share memory: %v", l)
		}
		l = l[:cap(l)]
		for k := range l {
			l[k] = named("odd", 14)
		}
	}
	if !slices.Equal(r.Columns(), want) {
		t.Errorf("columns share memory: %v", r.Columns())
	}
}

// TestRule4Commands has a command whose data and text are changed behind New.
func TestRule4Commands(t *testing.T) {
	data := roomy([]byte{1, 2, 3}, 7)
	cmd := api.Command{Kind: api.ComExecute, Flags: 1, Data: data}
	r := responder(t, needed, cmd, nil)
	if !isUntouched(data, []byte{1, 2, 3}, 7) {
		t.Errorf("the command was changed: %v", data[:cap(data)])
	}
	spoil(data)
	cmd.Kind, cmd.Flags = api.ComClose, 0
	wantLook(t, "an execute", r, look{may: true})
}

// TestRule4All leaves its packets as they were.
func TestRule4All(t *testing.T) {
	was := packets(file(), ok(more), count(1), described(wholeColumn()), eof(2), counted("7"), eof(2), nil)
	l := slices.Clone(was)
	for i := range l {
		l[i] = roomy(l[i], 9)
	}
	full := append(slices.Clone(l), slices.Repeat(packets([]byte("odd")), spare)...)
	if n, e := respond.All(needed|files, query(), nil, full[:len(l)]); n != 7 || e != api.OK {
		t.Errorf("All: %d, %v", n, e)
	}
	for i := range l {
		if !isUntouched(full[i], was[i], 9) {
			t.Errorf("packet %d was changed", i)
		}
	}
	for _, b := range full[len(l):] {
		if string(b) != "odd" {
			t.Errorf("spare room was changed: %q", b)
		}
	}
	if n, e := respond.All(needed|files, query(), nil, full[:6]); n != 0 || e != api.ErrOver {
		t.Errorf("All, with more in the spare room: %d, %v", n, e)
	}
}

// TestRule6NilAndEmpty are one and the same.
func TestRule6NilAndEmpty(t *testing.T) {
	for _, c := range allCaps() {
		for _, cmd := range cases() {
			for _, cols := range [][]api.Column{nil, {}} {
				for _, l := range [][][]byte{nil, {}, {nil}, {{}}} {
					wantPlain(t, c, cmd, cols, l)
				}
				cmd.Data = append([]byte{}, cmd.Data...)
				wantPlain(t, c, cmd, cols, packets(refusal()))
			}
		}
	}
	for _, b := range packets(nil, []byte{}) {
		r := responder(t, needed|files, query(), nil)
		r.Feed(file())
		wantFile(t, r, b, api.OK)
		if r.Wants() {
			t.Error("a file is wanted behind its end")
		}
	}
}

// TestRule8Texts has columns whose texts lie in one text, which is not kept alive by them.
func TestRule8Texts(t *testing.T) {
	long := strings.Repeat("x", 1000)
	c := api.Column{Name: long[10:20], Type: api.TypeTiny}
	for _, s := range textsOf(responder(t, needed, fetch(), list(c)).Columns()[0]) {
		if isWithin(s, long) {
			t.Errorf("the text %q is kept as it was handed in", s)
		}
	}
}
