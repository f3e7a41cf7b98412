package lenenc_test

import (
	"bytes"
	"math"
	"strings"
	"testing"

	"sluicegate/api"
	"sluicegate/lenenc"
)

// forms are numbers at the edges of the counted forms, each with its shortest one.
var forms = []struct {
	x    uint64
	form []byte
}{
	{0, []byte{0}},
	{1, []byte{1}},
	{249, []byte{249}},
	{250, []byte{250}},
	{251, []byte{252, 251, 0}},
	{252, []byte{252, 252, 0}},
	{255, []byte{252, 255, 0}},
	{256, []byte{252, 0, 1}},
	{0x1234, []byte{252, 0x34, 0x12}},
	{65535, []byte{252, 255, 255}},
	{65536, []byte{253, 0, 0, 1}},
	{0x123456, []byte{253, 0x56, 0x34, 0x12}},
	{16777215, []byte{253, 255, 255, 255}},
	{16777216, []byte{254, 0, 0, 0, 1, 0, 0, 0, 0}},
	{1<<32 - 1, []byte{254, 255, 255, 255, 255, 0, 0, 0, 0}},
	{1 << 32, []byte{254, 0, 0, 0, 0, 1, 0, 0, 0}},
	{0x0102030405060708, []byte{254, 8, 7, 6, 5, 4, 3, 2, 1}},
	{1<<63 - 1, []byte{254, 255, 255, 255, 255, 255, 255, 255, 127}},
	{1 << 63, []byte{254, 0, 0, 0, 0, 0, 0, 0, 128}},
	{math.MaxUint64, []byte{254, 255, 255, 255, 255, 255, 255, 255, 255}},
}

// behinds are what may stand behind a form without being looked at.
var behinds = [][]byte{nil, {}, {0}, {9}, {251}, {252}, {253, 1}, {254, 255, 255}, {255, 255, 255, 255, 255, 255, 255, 255, 255, 255}}

// texts have lengths at the edges of the counted forms; those with a byte 0 are no ended texts.
func texts() []string {
	return []string{
		"", "a", "ab", "\x00", "a\x00b", "\xfb\xff", "grüße", "\xff\xfe\x80",
		strings.Repeat("x", 250), strings.Repeat("y", 251), strings.Repeat("z", 252),
		strings.Repeat("p", 65535), strings.Repeat("q", 65536),
	}
}

func join(parts ...[]byte) []byte {
	return bytes.Join(parts, nil)
}

func wantFixed(t *testing.T, b []byte, x uint64, n int, want []byte, wantErr api.Errno) {
	t.Helper()
	got, e := lenenc.AppendFixed(b, x, n)
	if !bytes.Equal(got, want) || e != wantErr || e != api.OK && got != nil {
		t.Errorf("AppendFixed(%v, %d, %d): %v %d, not %v %d", b, x, n, got, e, want, wantErr)
	}
}

func wantReadFixed(t *testing.T, b []byte, n int, want uint64, wantErr api.Errno) {
	t.Helper()
	got, e := lenenc.ReadFixed(b, n)
	if got != want || e != wantErr {
		t.Errorf("ReadFixed(%v, %d): %d %d, not %d %d", b, n, got, e, want, wantErr)
	}
}

func wantReadInt(t *testing.T, b []byte, x uint64, n int, wantErr api.Errno) {
	t.Helper()
	gotX, gotN, e := lenenc.ReadInt(b)
	if gotX != x || gotN != n || e != wantErr {
		t.Errorf("ReadInt(%v): %d %d %d, not %d %d %d", b, gotX, gotN, e, x, n, wantErr)
	}
}

func wantReadText(t *testing.T, b []byte, s string, n int, wantErr api.Errno) {
	t.Helper()
	gotS, gotN, e := lenenc.ReadText(b)
	if gotS != s || gotN != n || e != wantErr {
		t.Errorf("ReadText of %d bytes: %.20q %d %d, not %.20q %d %d", len(b), gotS, gotN, e, s, n, wantErr)
	}
}

func wantEnded(t *testing.T, b []byte, s string, want []byte, wantErr api.Errno) {
	t.Helper()
	got, e := lenenc.AppendEnded(b, s)
	if !bytes.Equal(got, want) || e != wantErr || e != api.OK && got != nil {
		t.Errorf("AppendEnded(%v, %.20q): %d bytes, %d, not %d bytes, %d", b, s, len(got), e, len(want), wantErr)
	}
}

func wantReadEnded(t *testing.T, b []byte, s string, n int, wantErr api.Errno) {
	t.Helper()
	gotS, gotN, e := lenenc.ReadEnded(b)
	if gotS != s || gotN != n || e != wantErr {
		t.Errorf("ReadEnded of %d bytes: %.20q %d %d, not %.20q %d %d", len(b), gotS, gotN, e, s, n, wantErr)
	}
}

// TestP1_1AppendFixed: each width, the greatest number that fits it, the least that does not.
func TestP1_1AppendFixed(t *testing.T) {
	head := []byte{7, 8}
	for n := 1; n <= 8; n++ {
		greatest := uint64(math.MaxUint64) >> (64 - 8*n)
		wantFixed(t, head, greatest, n, join(head, bytes.Repeat([]byte{255}, n)), api.OK)
		wantFixed(t, nil, 0, n, make([]byte, n), api.OK)
		one := make([]byte, n)
		one[0] = 1
		wantFixed(t, head, 1, n, join(head, one), api.OK)
		if n < 8 {
			wantFixed(t, head, greatest+1, n, nil, api.ErrArg)
			wantFixed(t, head, math.MaxUint64, n, nil, api.ErrArg)
		}
	}
	wantFixed(t, []byte{}, 0x0807060504030201, 8, []byte{1, 2, 3, 4, 5, 6, 7, 8}, api.OK)
	wantFixed(t, nil, 0x030201, 3, []byte{1, 2, 3}, api.OK)
	wantFixed(t, nil, 258, 2, []byte{2, 1}, api.OK)
	wantFixed(t, nil, 258, 1, nil, api.ErrArg)
	for _, n := range []int{0, 9, -1, -8, 64, math.MinInt, math.MaxInt} {
		wantFixed(t, head, 0, n, nil, api.ErrArg)
		wantFixed(t, head, 1, n, nil, api.ErrArg)
		wantFixed(t, nil, math.MaxUint64, n, nil, api.ErrArg)
	}
}

// TestP1_1ReadFixed: each width with too few bytes, just enough, and more; a wrong width ahead of too few bytes.
func TestP1_1ReadFixed(t *testing.T) {
	b := []byte{1, 2, 3, 4, 5, 6, 7, 8, 9}
	want := uint64(0)
	for n := 1; n <= 8; n++ {
		want |= uint64(n) << (8 * (n - 1))
		wantReadFixed(t, b, n, want, api.OK)
		wantReadFixed(t, b[:n], n, want, api.OK)
		wantReadFixed(t, b[:n-1], n, 0, api.ErrShort)
		wantReadFixed(t, nil, n, 0, api.ErrShort)
	}
	wantReadFixed(t, bytes.Repeat([]byte{255}, 8), 8, math.MaxUint64, api.OK)
	wantReadFixed(t, []byte{0, 0, 0, 0, 0, 0, 0, 128}, 8, 1<<63, api.OK)
	for _, n := range []int{0, 9, -1, math.MinInt, math.MaxInt} {
		wantReadFixed(t, b, n, 0, api.ErrArg)
		wantReadFixed(t, nil, n, 0, api.ErrArg)
		wantReadFixed(t, []byte{}, n, 0, api.ErrArg)
	}
}

// TestP1_2AppendInt: the shortest form, behind what there was; Size is its length.
func TestP1_2AppendInt(t *testing.T) {
	for _, f := range forms {
		for _, head := range [][]byte{nil, {}, {252}, {1, 2, 3}} {
			if got := lenenc.AppendInt(head, f.x); !bytes.Equal(got, join(head, f.form)) {
				t.Errorf("AppendInt(%v, %d): %v", head, f.x, got)
			}
		}
		if got := lenenc.Size(f.x); got != len(f.form) {
			t.Errorf("Size(%d): %d, not %d", f.x, got, len(f.form))
		}
	}
}

// TestP1_2ReadInt: every form, cut anywhere, and with something behind it.
func TestP1_2ReadInt(t *testing.T) {
	for _, f := range forms {
		for _, behind := range behinds {
			wantReadInt(t, join(f.form, behind), f.x, len(f.form), api.OK)
		}
		for cut := range f.form {
			wantReadInt(t, f.form[:cut], 0, 0, api.ErrShort)
		}
	}
	wantReadInt(t, nil, 0, 0, api.ErrShort)
	wantReadInt(t, []byte{}, 0, 0, api.ErrShort)
	for _, behind := range behinds {
		wantReadInt(t, join([]byte{251}, behind), 0, 0, api.ErrBad)
		wantReadInt(t, join([]byte{255}, behind), 0, 0, api.ErrBad)
	}
}

// TestP1_2LongForms: a form that is not the shortest is read all the same.
func TestP1_2LongForms(t *testing.T) {
	for _, f := range []struct {
		form []byte
		x    uint64
	}{
		{[]byte{252, 1, 0}, 1},
		{[]byte{252, 250, 0}, 250},
		{[]byte{253, 0, 0, 0}, 0},
		{[]byte{253, 255, 255, 0}, 65535},
		{[]byte{254, 0, 0, 0, 0, 0, 0, 0, 0}, 0},
		{[]byte{254, 255, 255, 255, 0, 0, 0, 0, 0}, 16777215},
	} {
		for _, behind := range behinds {
			wantReadInt(t, join(f.form, behind), f.x, len(f.form), api.OK)
		}
	}
}

// TestP1_2FirstBytes: what each of the 256 first bytes begins.
func TestP1_2FirstBytes(t *testing.T) {
	widths := map[int]int{252: 2, 253: 3, 254: 8}
	for first := range 256 {
		alone := []byte{byte(first)}
		long := join(alone, []byte{1, 0, 0, 0, 0, 0, 0, 0, 77})
		switch {
		case first <= 250:
			wantReadInt(t, alone, uint64(first), 1, api.OK)
			wantReadInt(t, long, uint64(first), 1, api.OK)
		case widths[first] > 0:
			wantReadInt(t, alone, 0, 0, api.ErrShort)
			wantReadInt(t, long, 1, 1+widths[first], api.OK)
			wantReadInt(t, long[:widths[first]], 0, 0, api.ErrShort)
			wantReadInt(t, long[:widths[first]+1], 1, 1+widths[first], api.OK)
		default:
			wantReadInt(t, alone, 0, 0, api.ErrBad)
			wantReadInt(t, long, 0, 0, api.ErrBad)
		}
	}
}

// TestP1_3AppendText: the length in the shortest form, and the text, whatever its bytes are.
func TestP1_3AppendText(t *testing.T) {
	for _, s := range texts() {
		for _, head := range [][]byte{nil, {}, {9, 0}} {
			want := join(head, lenenc.AppendInt(nil, uint64(len(s))), []byte(s))
			if got := lenenc.AppendText(head, s); !bytes.Equal(got, want) {
				t.Errorf("AppendText(%v, %.20q of %d bytes): %d bytes, not %d", head, s, len(s), len(got), len(want))
			}
		}
	}
	if got := lenenc.AppendText(nil, "ab"); !bytes.Equal(got, []byte{2, 97, 98}) {
		t.Errorf("AppendText of ab: %v", got)
	}
	if got := lenenc.AppendText(nil, strings.Repeat("a", 251)); !bytes.Equal(got[:4], []byte{252, 251, 0, 97}) || len(got) != 254 {
		t.Errorf("AppendText of 251 bytes: %v", got)
	}
}

// TestP1_3ReadText: texts whole, with something behind them, a byte short, with a number that ends early or is none.
func TestP1_3ReadText(t *testing.T) {
	for _, s := range texts() {
		form := lenenc.AppendText(nil, s)
		for _, behind := range behinds {
			wantReadText(t, join(form, behind), s, len(form), api.OK)
		}
		wantReadText(t, form[:len(form)-1], "", 0, api.ErrShort)
	}
	wantReadText(t, []byte{2, 97, 98, 99}, "ab", 3, api.OK)
	wantReadText(t, []byte{3, 97, 98}, "", 0, api.ErrShort)
	wantReadText(t, []byte{252, 2, 0, 97, 98, 99}, "ab", 5, api.OK)
	wantReadText(t, []byte{254, 1, 0, 0, 0, 0, 0, 0, 0, 97}, "a", 10, api.OK)
	wantReadText(t, nil, "", 0, api.ErrShort)
	wantReadText(t, []byte{}, "", 0, api.ErrShort)
	wantReadText(t, []byte{251, 97}, "", 0, api.ErrBad)
	wantReadText(t, []byte{255, 97}, "", 0, api.ErrBad)
	wantReadText(t, []byte{252, 0}, "", 0, api.ErrShort)
	wantReadText(t, []byte{253, 1, 0}, "", 0, api.ErrShort)
	wantReadText(t, []byte{254, 1, 0, 0, 0, 0, 0, 0}, "", 0, api.ErrShort)
}

// TestP1_3HugeNumbers: a number that no int holds, or that goes round with the place behind it, is too long a text and no panic.
func TestP1_3HugeNumbers(t *testing.T) {
	for _, x := range []uint64{math.MaxUint64, math.MaxUint64 - 8, 1 << 63, 1<<63 - 1, 1<<63 - 9, 1 << 62, 1 << 32, 1<<32 + 1, 1 << 31} {
		wantReadText(t, join(lenenc.AppendInt(nil, x), []byte("abc")), "", 0, api.ErrShort)
		wantReadText(t, lenenc.AppendInt(nil, x), "", 0, api.ErrShort)
	}
}

// TestP1_4AppendEnded: the text and a byte 0; no text that has one itself.
func TestP1_4AppendEnded(t *testing.T) {
	for _, s := range texts() {
		for _, head := range [][]byte{nil, {}, {0}, {9, 0, 9}} {
			if strings.Contains(s, "\x00") {
				wantEnded(t, head, s, nil, api.ErrArg)
			} else {
				wantEnded(t, head, s, join(head, []byte(s), []byte{0}), api.OK)
			}
		}
	}
	wantEnded(t, nil, "", []byte{0}, api.OK)
	for _, s := range []string{"\x00", "a\x00", "\x00a", "a\x00b", strings.Repeat("x", 999) + "\x00"} {
		wantEnded(t, []byte{1}, s, nil, api.ErrArg)
	}
}

// TestP1_4ReadEnded: up to the first byte 0, whatever is behind it.
func TestP1_4ReadEnded(t *testing.T) {
	wantReadEnded(t, []byte{97, 0, 98}, "a", 2, api.OK)
	wantReadEnded(t, []byte{97, 0, 98, 0}, "a", 2, api.OK)
	wantReadEnded(t, []byte{0}, "", 1, api.OK)
	wantReadEnded(t, []byte{0, 0}, "", 1, api.OK)
	wantReadEnded(t, []byte{255, 251, 128, 0}, "\xff\xfb\x80", 4, api.OK)
	wantReadEnded(t, []byte{97, 98}, "", 0, api.ErrShort)
	wantReadEnded(t, nil, "", 0, api.ErrShort)
	wantReadEnded(t, []byte{}, "", 0, api.ErrShort)
	wantReadEnded(t, bytes.Repeat([]byte{1}, 1000), "", 0, api.ErrShort)
	spare := []byte{97, 0}
	wantReadEnded(t, spare[:1], "", 0, api.ErrShort)
}

// TestP1_5ReadBack: what was appended is read back, whatever stands behind it.
func TestP1_5ReadBack(t *testing.T) {
	for _, behind := range behinds {
		for _, f := range forms {
			wantReadInt(t, join(lenenc.AppendInt(nil, f.x), behind), f.x, lenenc.Size(f.x), api.OK)
			for n := 1; n <= 8; n++ {
				if b, e := lenenc.AppendFixed(nil, f.x, n); e == api.OK {
					wantReadFixed(t, join(b, behind), n, f.x, api.OK)
				}
			}
		}
		for _, s := range texts() {
			form := lenenc.AppendText(nil, s)
			wantReadText(t, join(form, behind), s, len(form), api.OK)
			if b, e := lenenc.AppendEnded(nil, s); e == api.OK {
				wantReadEnded(t, join(b, behind), s, len(s)+1, api.OK)
			}
		}
	}
}

// words are all the rows of up to most bytes out of some that matter.
func words(most int) [][]byte {
	all := [][]byte{{}}
	last := all
	for range most {
		var longer [][]byte
		for _, w := range last {
			for _, c := range []byte{0, 1, 2, 250, 251, 252, 253, 254, 255} {
				longer = append(longer, join(w, []byte{c}))
			}
		}
		all = append(all, longer...)
		last = longer
	}
	return all
}

// TestP1_5NotLonger: of what was read, appended, no form is longer than the one that was read; nothing panics on the way.
func TestP1_5NotLonger(t *testing.T) {
	for _, w := range append(words(5), bytes.Repeat([]byte{254}, 9), bytes.Repeat([]byte{254}, 12)) {
		if x, n, e := lenenc.ReadInt(w); e == api.OK {
			if again := lenenc.AppendInt(nil, x); len(again) > n || len(again) != lenenc.Size(x) {
				t.Fatalf("%v: %d was read of %d bytes, and appended as %v", w, x, n, again)
			}
		}
		if s, n, e := lenenc.ReadText(w); e == api.OK {
			if again := lenenc.AppendText(nil, s); len(again) > n {
				t.Fatalf("%v: %q was read of %d bytes, and appended as %v", w, s, n, again)
			}
		}
		if s, n, e := lenenc.ReadEnded(w); e == api.OK {
			if again, e := lenenc.AppendEnded(nil, s); e != api.OK || !bytes.Equal(again, w[:n]) {
				t.Fatalf("%v: %q was read, and appended as %v %d", w, s, again, e)
			}
		}
		for n := -1; n <= 9; n++ {
			if x, e := lenenc.ReadFixed(w, n); e == api.OK {
				if again, e := lenenc.AppendFixed(nil, x, n); e != api.OK || !bytes.Equal(again, w[:n]) {
					t.Fatalf("%v: %d was read, and appended as %v %d", w, x, again, e)
				}
			}
		}
	}
}

// TestP1_5OneByOne: counted numbers and texts one behind the other are read one by one.
func TestP1_5OneByOne(t *testing.T) {
	var b []byte
	for _, f := range forms {
		b = lenenc.AppendInt(b, f.x)
		for _, s := range texts() {
			b = lenenc.AppendText(b, s)
		}
	}
	for _, f := range forms {
		wantReadInt(t, b, f.x, len(f.form), api.OK)
		b = b[len(f.form):]
		for _, s := range texts() {
			size := lenenc.Size(uint64(len(s))) + len(s)
			wantReadText(t, b, s, size, api.OK)
			b = b[size:]
		}
	}
	if len(b) != 0 {
		t.Errorf("%d bytes are left", len(b))
	}
}

// TestP1_5NoFirstPart: no first part of a counted number, but itself, is one.
func TestP1_5NoFirstPart(t *testing.T) {
	for _, w := range append(words(5), bytes.Repeat([]byte{254}, 12)) {
		_, n, e := lenenc.ReadInt(w)
		if e != api.OK {
			continue
		}
		for cut := range n {
			wantReadInt(t, w[:cut], 0, 0, api.ErrShort)
		}
		for cut := n; cut <= len(w); cut++ {
			if _, m, e := lenenc.ReadInt(w[:cut]); m != n || e != api.OK {
				t.Fatalf("%v has %d bytes, and %d of its first %d: %d", w, n, m, cut, e)
			}
		}
	}
}

// appends are all calls that answer b with something behind it.
var appends = []struct {
	name string
	call func(b []byte) []byte
}{
	{"AppendFixed", func(b []byte) []byte { out, _ := lenenc.AppendFixed(b, 258, 2); return out }},
	{"AppendInt of one byte", func(b []byte) []byte { return lenenc.AppendInt(b, 5) }},
	{"AppendInt of nine bytes", func(b []byte) []byte { return lenenc.AppendInt(b, math.MaxUint64) }},
	{"AppendText", func(b []byte) []byte { return lenenc.AppendText(b, "ab") }},
	{"AppendText of nothing", func(b []byte) []byte { return lenenc.AppendText(b, "") }},
	{"AppendEnded", func(b []byte) []byte { out, _ := lenenc.AppendEnded(b, "ab"); return out }},
	{"AppendEnded of nothing", func(b []byte) []byte { out, _ := lenenc.AppendEnded(b, ""); return out }},
}

// TestNewMemory: an answer shares nothing with b nor with its spare room, and b's stays as it was.
func TestNewMemory(t *testing.T) {
	for _, a := range appends {
		for _, size := range []int{0, 1, 3} {
			whole := bytes.Repeat([]byte{77}, 64)
			before := bytes.Clone(whole)
			first, second := a.call(whole[:size]), a.call(whole[:size])
			if !bytes.Equal(whole, before) {
				t.Errorf("%s: what was handed in is changed", a.name)
			}
			want := bytes.Clone(second)
			clear(first[:cap(first)])
			if !bytes.Equal(whole, before) {
				t.Errorf("%s: the answer shares memory with what was handed in", a.name)
			}
			clear(whole)
			if !bytes.Equal(second, want) {
				t.Errorf("%s: the answer hangs on what was handed in, or on another answer", a.name)
			}
		}
	}
}

// TestTextsAreNew: a text that was read stays as it is, whatever becomes of its bytes; reading changes none of them.
func TestTextsAreNew(t *testing.T) {
	b := []byte{2, 'a', 'b', 0, 9}
	before := bytes.Clone(b)
	counted, _, _ := lenenc.ReadText(b)
	ended, _, _ := lenenc.ReadEnded(b)
	if !bytes.Equal(b, before) {
		t.Errorf("reading changed the bytes: %v", b)
	}
	clear(b)
	if counted != "ab" || ended != "\x02ab" {
		t.Errorf("texts changed with their bytes: %q %q", counted, ended)
	}
}

// TestSpareRoomIsNotRead: bytes behind a list's end, within its room, do not count.
func TestSpareRoomIsNotRead(t *testing.T) {
	wantReadFixed(t, []byte{1, 2}[:1], 2, 0, api.ErrShort)
	wantReadInt(t, []byte{252, 1, 2}[:2], 0, 0, api.ErrShort)
	wantReadInt(t, []byte{5}[:0], 0, 0, api.ErrShort)
	wantReadText(t, []byte{2, 97, 98}[:2], "", 0, api.ErrShort)
	wantReadEnded(t, []byte{97, 0}[:1], "", 0, api.ErrShort)
}

// TestNilIsEmpty: a nil list and an empty one are the same.
func TestNilIsEmpty(t *testing.T) {
	for _, a := range appends {
		if none, empty := a.call(nil), a.call([]byte{}); !bytes.Equal(none, empty) || len(none) == 0 {
			t.Errorf("%s: %v of nil, %v of an empty list", a.name, none, empty)
		}
	}
}
