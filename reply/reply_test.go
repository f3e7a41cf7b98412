package reply_test

import (
	"bytes"
	"fmt"
	"math/rand"
	"strings"
	"testing"

	"sluicegate/api"
	"sluicegate/reply"
)

func wantAppend(t *testing.T, s sample, b, want []byte) {
	t.Helper()
	if got, e := s.put(b); !bytes.Equal(got, want) || e != api.OK {
		t.Errorf("Append of %s behind %d bytes: %s, %v, want %s", s.name, len(b), brief(got), e, brief(want))
	}
}

func wantRefused(t *testing.T, s sample) {
	t.Helper()
	for _, b := range [][]byte{nil, {}, {1, 2}} {
		if got, e := s.put(b); len(got) != 0 || e != api.ErrArg {
			t.Errorf("Append of %s behind %d bytes: %s, %v", s.name, len(b), brief(got), e)
		}
	}
}

func wantRead(t *testing.T, r reading, b []byte, want any) {
	t.Helper()
	if got, e := r.read(b); !same(got, want) || e != api.OK {
		t.Errorf("Read of %s of %s: %s, %v, want %s", r.kind, brief(b), brief(got), e, brief(want))
	}
}

func wantError(t *testing.T, r reading, b []byte, want api.Errno) {
	t.Helper()
	if got, e := r.read(b); !isZero(got) || e != want {
		t.Errorf("Read of %s of %s: %s, %v, want %v", r.kind, brief(b), brief(got), e, want)
	}
}

// wantPlain asks that bytes are read as the chapter reads them.
func wantPlain(t *testing.T, r reading, b []byte) {
	t.Helper()
	want, e := r.plain(b)
	if e != api.OK {
		wantError(t, r, b, e)
		return
	}
	wantRead(t, r, b, want)
}

func wantFirst(t *testing.T, b []byte, c api.Caps, want int) {
	t.Helper()
	if kind := reply.First(b, c); kind != want {
		t.Errorf("First of %d bytes, %s, by %x: %d, want %d", len(b), brief(b[:min(len(b), 9)]), c, kind, want)
	}
}

func wantLast(t *testing.T, b []byte, c api.Caps, want int) {
	t.Helper()
	if kind := reply.Last(b, c); kind != want {
		t.Errorf("Last of %d bytes, %s, by %x: %d, want %d", len(b), brief(b[:min(len(b), 9)]), c, kind, want)
	}
}

func TestExamples(t *testing.T) {
	o := api.Ok{Affected: 1, Status: 2}
	plain := []byte{0, 1, 0, 2, 0, 0, 0}
	wantAppend(t, ofOk(0, o, false), nil, plain)
	wantAppend(t, ofOk(tracks, o, false), nil, []byte{0, 1, 0, 2, 0, 0, 0, 0})
	wantRead(t, okReading(tracks), plain, o)
	wantError(t, okReading(tracks), plain[:6], api.ErrShort)
	wantError(t, okReading(0), plain[:6], api.ErrShort)
	wantAppend(t, ofErr(api.Err{Code: 1064, State: "42000", Text: "no"}), nil, []byte{255, 40, 4, '#', '4', '2', '0', '0', '0', 'n', 'o'})
	wantError(t, errReading(), []byte{255, 40, 4, 97}, api.ErrBad)
	wantError(t, errReading(), []byte{255, 40}, api.ErrShort)
	eof := []byte{254, 0, 0, 2, 0}
	wantAppend(t, ofEof(api.Eof{Warnings: 0, Status: 2}), nil, eof)
	wantLast(t, eof, 0, api.KindEof)
	wantLast(t, eof, deprecates, api.KindOk)
	wantAppend(t, ofFile("a"), nil, []byte{251, 97})
	wantError(t, fileReading(), []byte{251}, api.ErrShort)
	wantFirst(t, []byte{251, 97}, 0, api.KindOther)
	wantFirst(t, []byte{251, 97}, files, api.KindFile)
}

// TestKinds asks of package api for the numbers that the tests lean on.
func TestKinds(t *testing.T) {
	if fmt.Sprint(api.KindOther, api.KindOk, api.KindErr, api.KindEof, api.KindFile) != "0 1 2 3 4" {
		t.Errorf("the kinds are others")
	}
	if tracks != 1<<23 || deprecates != 1<<24 || files != 1<<7 || changed != 1<<14 {
		t.Errorf("the flags are others")
	}
}

// TestP14_1Written has bytes that were written out by hand.
func TestP14_1Written(t *testing.T) {
	some := api.Ok{Affected: 250, Insert: 251, Status: 0x0302, Warnings: 0x0504, Info: "ab"}
	told := some
	told.Status |= changed
	tracked := told
	tracked.Track = []byte{7, 0}
	long := tracked
	long.Info = strings.Repeat("i", 251)
	head := []byte{0, 250, 252, 251, 0, 2, 3, 4, 5}
	toldHead := []byte{0, 250, 252, 251, 0, 2, 0x43, 4, 5}
	for _, c := range []struct {
		s    sample
		want []byte
	}{
		{ofOk(0, some, false), join(head, []byte("ab"))},
		{ofOk(0, told, false), join(toldHead, []byte("ab"))},
		{ofOk(tracks, some, false), join(head, []byte{2, 'a', 'b'})},
		{ofOk(tracks, told, false), join(toldHead, []byte{2, 'a', 'b', 0})},
		{ofOk(tracks, tracked, false), join(toldHead, []byte{2, 'a', 'b', 2, 7, 0})},
		{ofOk(tracks, tracked, true), join([]byte{254}, toldHead[1:], []byte{2, 'a', 'b', 2, 7, 0})},
		{ofOk(tracks, long, false), join(toldHead, []byte{252, 251, 0}, []byte(long.Info), []byte{2, 7, 0})},
		{ofOk(0, api.Ok{}, true), []byte{254, 0, 0, 0, 0, 0, 0}},
		{ofOk(tracks, api.Ok{}, true), []byte{254, 0, 0, 0, 0, 0, 0, 0}},
		{ofOk(tracks, api.Ok{Status: changed}, true), []byte{254, 0, 0, 0, 64, 0, 0, 0, 0}},
		{ofOk(deprecates, api.Ok{Status: changed}, false), []byte{0, 0, 0, 0, 64, 0, 0}},
		{ofErr(api.Err{Code: 0x0201, State: "\x00#abc", Text: "\x00"}), []byte{255, 1, 2, 35, 0, 35, 'a', 'b', 'c', 0}},
		{ofErr(api.Err{State: "HY000"}), []byte{255, 0, 0, 35, 'H', 'Y', '0', '0', '0'}},
		{ofEof(api.Eof{Warnings: 0x0201, Status: 0x0403}), []byte{254, 1, 2, 3, 4}},
		{ofEof(api.Eof{Warnings: 1<<16 - 1, Status: 1<<16 - 1}), []byte{254, 255, 255, 255, 255}},
		{ofPrepared(basicPrepared()), []byte{0, 1, 2, 3, 4, 5, 6, 7, 8, 0, 9, 10}},
		{ofPrepared(api.Prepared{}), make([]byte, 12)},
		{ofFile("a\x00b"), []byte{251, 97, 0, 98}},
	} {
		wantAppend(t, c.s, nil, c.want)
		wantAppend(t, c.s, []byte{9, 0}, join([]byte{9, 0}, c.want))
		wantRead(t, c.s.reading, c.want, c.s.thing)
	}
}

// TestP14_1Samples has all things behind nothing and behind something, their own bytes too.
func TestP14_1Samples(t *testing.T) {
	for _, s := range samples() {
		wantAppend(t, s, nil, s.bytes)
		wantAppend(t, s, []byte{255}, join([]byte{255}, s.bytes))
	}
	for _, s := range basics() {
		for _, b := range [][]byte{nil, {}, {0}, {254, 255, 251}, s.bytes, climbing(0, 300)} {
			wantAppend(t, s, b, join(b, s.bytes))
		}
	}
}

// TestP14_1Track is refused where it may not be, whatever else there is.
func TestP14_1Track(t *testing.T) {
	for _, c := range capsSets() {
		for _, status := range statuses() {
			for _, track := range [][]byte{nil, {}, {0}, climbing(0, 300)} {
				for _, last := range []bool{false, true} {
					s := ofOk(c, api.Ok{Affected: 3, Status: status, Info: "i", Track: track}, last)
					if len(track) > 0 && (c&tracks == 0 || status&changed == 0) {
						wantRefused(t, s)
						continue
					}
					wantAppend(t, s, []byte{1}, join([]byte{1}, s.bytes))
				}
			}
		}
	}
}

// TestP14_1EachFlag has each capability alone, and each status' flag alone: no other one lets a Track be, or gives it a place.
func TestP14_1EachFlag(t *testing.T) {
	for bit := range 32 {
		for flag := range 16 {
			c, status := api.Caps(1)<<bit, uint16(1)<<flag
			still, told := ofOk(c, api.Ok{Status: status, Info: "i"}, false), ofOk(c, api.Ok{Status: status, Track: []byte{1}}, false)
			wantAppend(t, still, nil, still.bytes)
			if c == tracks && status == changed {
				wantAppend(t, told, nil, told.bytes)
				continue
			}
			wantRefused(t, told)
		}
	}
}

// TestP14_1States has States of each length up to ten: five bytes alone may be.
func TestP14_1States(t *testing.T) {
	for n := range 11 {
		for _, letter := range []string{"0", "#", "\x00", "\xff"} {
			for _, text := range []string{"", "t", "42000"} {
				s := ofErr(api.Err{Code: 1064, State: strings.Repeat(letter, n), Text: text})
				if n != 5 {
					wantRefused(t, s)
					continue
				}
				wantAppend(t, s, nil, s.bytes)
			}
		}
	}
	wantRefused(t, ofErr(api.Err{State: "äöü"}))
	wantRefused(t, ofErr(api.Err{State: strings.Repeat("s", 256+5)}))
}

func TestP14_1FileOfNoName(t *testing.T) {
	wantRefused(t, ofFile(""))
}

func TestP14_1Drawn(t *testing.T) {
	r := rand.New(rand.NewSource(14))
	for range 30000 {
		c, last := api.Caps(r.Uint32()), r.Intn(2) == 0
		o := drawnOk(r)
		s := ofOk(c, o, last)
		if !plainOkMay(c, o) {
			wantRefused(t, s)
			continue
		}
		wantAppend(t, s, []byte{7}, join([]byte{7}, s.bytes))
		wantRead(t, s.reading, s.bytes, o)
	}
}

func TestP14_2Nothing(t *testing.T) {
	for _, r := range readings() {
		for _, b := range [][]byte{nil, {}, make([]byte, 0, 9), []byte{254, 0, 0, 0, 0}[:0]} {
			wantError(t, r, b, api.ErrShort)
		}
	}
}

// TestP14_2Firsts has each first byte of each thing: a wrong one is told as soon as it is there.
func TestP14_2Firsts(t *testing.T) {
	for _, s := range basics() {
		for x := range 256 {
			b := with(s.bytes, 0, byte(x))
			right := b[0] == s.bytes[0]
			if _, isOk := s.thing.(api.Ok); isOk {
				right = x == 0 || x == 254
			}
			if right {
				wantRead(t, s.reading, b, s.thing)
				wantError(t, s.reading, b[:1], api.ErrShort)
				continue
			}
			for end := 1; end <= len(b); end++ {
				wantError(t, s.reading, b[:end], api.ErrBad)
			}
			wantError(t, s.reading, append(b, 1), api.ErrBad)
		}
	}
}

// TestP14_2Cut cuts each packet at every place: within what must be there it is short, behind that a field up to the end is shorter.
func TestP14_2Cut(t *testing.T) {
	for _, s := range basics() {
		for end := range s.bytes {
			b := s.bytes[:end]
			o, isOk := s.thing.(api.Ok)
			if isOk && end == plainHead(o) && o.Status&changed == 0 {
				o.Info = ""
				wantRead(t, s.reading, b, o)
				continue
			}
			if end < s.least {
				wantError(t, s.reading, b, api.ErrShort)
				continue
			}
			wantPlain(t, s.reading, b)
		}
	}
}

// plainHead is how many bytes an OK has ahead of its Info.
func plainHead(o api.Ok) int {
	return 1 + len(counted(o.Affected)) + len(counted(o.Insert)) + 4
}

// TestP14_2ByteMore has one byte more, and more of them: wrong where nothing may be, else the field up to the end is longer.
func TestP14_2ByteMore(t *testing.T) {
	for _, s := range basics() {
		for x := range 256 {
			for _, more := range [][]byte{{byte(x)}, {byte(x), 0}, bytes.Repeat([]byte{byte(x)}, 300)} {
				b := join(s.bytes, more)
				if !s.open {
					wantError(t, s.reading, b, api.ErrBad)
					continue
				}
				wantRead(t, s.reading, b, longer(s.thing, string(more)))
			}
		}
	}
}

// longer is a thing with more in its field up to the end.
func longer(thing any, more string) any {
	switch x := thing.(type) {
	case api.Ok:
		x.Info += more
		return x
	case api.Err:
		x.Text += more
		return x
	case string:
		return x + more
	}
	return nil
}

// TestP14_2InfoLeftOut has an OK that ends behind its Warnings: Info's count may be missing where no Track stands behind it, and a Track's may not.
func TestP14_2InfoLeftOut(t *testing.T) {
	for _, first := range []byte{0, 254} {
		for _, status := range statuses() {
			head := join([]byte{first, 1, 0}, two(status), []byte{3, 0})
			o := api.Ok{Affected: 1, Status: status, Warnings: 3}
			for _, c := range capsSets() {
				switch {
				case c&tracks == 0:
					wantRead(t, okReading(c), head, o)
				case status&changed == 0:
					wantRead(t, okReading(c), head, o)
					wantRead(t, okReading(c), join(head, []byte{0}), o)
					wantError(t, okReading(c), join(head, []byte{0, 0}), api.ErrBad)
				default:
					wantError(t, okReading(c), head, api.ErrShort)
					wantError(t, okReading(c), join(head, []byte{0}), api.ErrShort)
					wantRead(t, okReading(c), join(head, []byte{0, 0}), o)
					wantError(t, okReading(c), join(head, []byte{0, 0, 0}), api.ErrBad)
				}
			}
		}
	}
}

// TestP14_2Forms has counted numbers and texts in each form that may be, and such as begin none, at each of their places.
func TestP14_2Forms(t *testing.T) {
	forms := [][]byte{{2}, {252, 2, 0}, {253, 2, 0, 0}, {254, 2, 0, 0, 0, 0, 0, 0, 0}}
	want := api.Ok{Affected: 2, Insert: 2, Status: changed, Info: "in", Track: []byte("tr")}
	for i := range 256 {
		at := [4]int{i % 4, i / 4 % 4, i / 16 % 4, i / 64}
		b := join([]byte{0}, forms[at[0]], forms[at[1]], []byte{0, 64, 0, 0}, forms[at[2]], []byte("in"), forms[at[3]], []byte("tr"))
		wantRead(t, okReading(tracks), b, want)
		for end := range b {
			wantError(t, okReading(tracks), b[:end], api.ErrShort)
		}
		wantError(t, okReading(tracks), append(b, 0), api.ErrBad)
	}
	b := []byte{0, 2, 2, 0, 64, 0, 0, 2, 'i', 'n', 2, 't', 'r'}
	for _, at := range []int{1, 2, 7, 10} {
		for _, x := range []byte{251, 255} {
			spoilt := with(b, at, x)
			for end := at + 1; end <= len(b); end++ {
				wantError(t, okReading(tracks), spoilt[:end], api.ErrBad)
			}
			wantError(t, okReading(tracks), spoilt[:at], api.ErrShort)
		}
	}
}

// TestP14_2GreatCounts has texts whose count is far beyond what is there.
func TestP14_2GreatCounts(t *testing.T) {
	for _, size := range []uint64{3, 250, 65535, 1<<31 - 1, 1 << 31, 1 << 32, 1<<63 - 1, 1 << 63, 1<<64 - 2, 1<<64 - 1} {
		wantError(t, okReading(tracks), join([]byte{0, 0, 0, 0, 0, 0, 0}, counted(size), []byte("ab")), api.ErrShort)
		wantError(t, okReading(tracks), join([]byte{0, 0, 0, 0, 64, 0, 0, 0}, counted(size), []byte("ab")), api.ErrShort)
	}
}

// TestP14_2TwoFaults has two, of which the left one counts.
func TestP14_2TwoFaults(t *testing.T) {
	for _, c := range []struct {
		r    reading
		b    []byte
		want api.Errno
	}{
		{okReading(0), []byte{1}, api.ErrBad},
		{okReading(0), []byte{0, 251}, api.ErrBad},
		{okReading(0), []byte{0, 252, 1}, api.ErrShort},
		{okReading(0), []byte{0, 252, 255, 255, 255, 0}, api.ErrBad},
		{okReading(0), []byte{255, 252, 1}, api.ErrBad},
		{okReading(0), []byte{0, 1, 255, 0}, api.ErrBad},
		{okReading(0), []byte{0, 1, 1, 0, 0, 0}, api.ErrShort},
		{okReading(tracks), []byte{0, 1, 1, 0, 64, 0, 0, 251}, api.ErrBad},
		{okReading(tracks), []byte{0, 1, 1, 0, 64, 0, 0, 1, 'a', 251, 9}, api.ErrBad},
		{okReading(tracks), []byte{0, 1, 1, 0, 64, 0, 0, 3, 'a', 251}, api.ErrShort},
		{okReading(tracks), []byte{0, 1, 1, 0, 0, 0, 0, 252, 0}, api.ErrShort},
		{okReading(tracks), []byte{0, 1, 1, 0, 0, 0, 0, 0, 251}, api.ErrBad},
		{errReading(), []byte{254, 1}, api.ErrBad},
		{errReading(), []byte{255, 1, 2}, api.ErrShort},
		{errReading(), []byte{255, 1, 2, 36, 0}, api.ErrBad},
		{errReading(), []byte{255, 1, 2, '4', '2', '0', '0', '0', 'n', 'o'}, api.ErrBad},
		{errReading(), []byte{255, 1, 2, 35, '4', '2', '0', '0'}, api.ErrShort},
		{eofReading(), []byte{0, 1, 2}, api.ErrBad},
		{eofReading(), []byte{255, 1, 2, 3, 4, 5}, api.ErrBad},
		{preparedReading(), []byte{254, 1, 2}, api.ErrBad},
		{preparedReading(), []byte{0, 1, 2, 3, 4, 5, 6, 7, 8}, api.ErrShort},
		{preparedReading(), []byte{0, 1, 2, 3, 4, 5, 6, 7, 8, 1}, api.ErrBad},
		{preparedReading(), []byte{0, 1, 2, 3, 4, 5, 6, 7, 8, 1, 9}, api.ErrBad},
		{preparedReading(), []byte{0, 1, 2, 3, 4, 5, 6, 7, 8, 0, 9}, api.ErrShort},
		{fileReading(), []byte{250}, api.ErrBad},
		{fileReading(), []byte{252, 'a'}, api.ErrBad},
	} {
		wantError(t, c.r, c.b, c.want)
	}
}

// TestP14_2StateMark has each byte in the place of the one ahead of an ERR's State.
func TestP14_2StateMark(t *testing.T) {
	whole := plainErr(basicErr())
	for x := range 256 {
		for end := 4; end <= len(whole); end++ {
			b := with(whole, 3, byte(x))[:end]
			switch {
			case x != '#':
				wantError(t, errReading(), b, api.ErrBad)
			case end < 9:
				wantError(t, errReading(), b, api.ErrShort)
			default:
				wantRead(t, errReading(), b, api.Err{Code: 0x0201, State: "42S02", Text: "no such"[:end-9]})
			}
		}
	}
}

// TestP14_2PreparedZeros turns each of the two bytes 0, and any other byte, of what was prepared.
func TestP14_2PreparedZeros(t *testing.T) {
	whole := plainPrepared(basicPrepared())
	for at := range whole {
		for x := range 256 {
			b := with(whole, at, byte(x))
			if x != 0 && (at == 0 || at == 9) {
				for end := at + 1; end <= len(b); end++ {
					wantError(t, preparedReading(), b[:end], api.ErrBad)
				}
				continue
			}
			wantPlain(t, preparedReading(), b)
		}
	}
}

// TestP14_2Samples has the bytes of each thing, and read as each other one.
func TestP14_2Samples(t *testing.T) {
	for _, s := range samples() {
		wantRead(t, s.reading, s.bytes, s.thing)
		if len(s.bytes) > 1000 {
			continue
		}
		for _, r := range readings() {
			wantPlain(t, r, s.bytes)
		}
	}
}

// TestP14_2Few has all bytes that are up to two, and of those that are more each with one byte turned.
func TestP14_2Few(t *testing.T) {
	for _, r := range readings() {
		for x := range 256 {
			wantPlain(t, r, []byte{byte(x)})
			for y := range 256 {
				wantPlain(t, r, []byte{byte(x), byte(y)})
			}
		}
	}
	for _, s := range basics() {
		for at := range s.bytes {
			for x := range 256 {
				wantPlain(t, s.reading, with(s.bytes, at, byte(x)))
			}
		}
	}
}

func TestP14_2Drawn(t *testing.T) {
	r := rand.New(rand.NewSource(142))
	from, all := basics(), readings()
	for range 200000 {
		b := drawnBytes(r, from)
		for _, reading := range all {
			wantPlain(t, reading, b)
		}
	}
}

// kindCaps are all sets of the capabilities on which a kind hangs, alone and beside all others.
func kindCaps() []api.Caps {
	var l []api.Caps
	for _, c := range []api.Caps{0, files, deprecates, files | deprecates} {
		l = append(l, c, c|^(files|deprecates))
	}
	return l
}

func TestP14_3Nothing(t *testing.T) {
	for _, c := range kindCaps() {
		for _, b := range [][]byte{nil, {}, make([]byte, 0, 9), []byte{255}[:0], []byte{254, 0, 0, 0, 0}[:0]} {
			wantFirst(t, b, c, api.KindOther)
			wantLast(t, b, c, api.KindOther)
		}
	}
}

// TestP14_3EachByte has each first byte, in packets of few bytes, the lengths 4, 5 and 6 of those that begin with 254 among them.
func TestP14_3EachByte(t *testing.T) {
	for _, c := range kindCaps() {
		for x := range 256 {
			for size := 1; size < 20; size++ {
				for _, filler := range []byte{0, 254, 255} {
					b := with(bytes.Repeat([]byte{filler}, size), 0, byte(x))
					wantFirst(t, b, c, plainFirst(byte(x), c))
					wantLast(t, b, c, plainLast(byte(x), size, c))
				}
			}
		}
	}
}

func TestP14_3Written(t *testing.T) {
	five := []byte{254, 0, 0, 0, 0}
	for _, c := range []struct {
		b           []byte
		c           api.Caps
		first, last int
	}{
		{[]byte{0}, 0, api.KindOk, api.KindOther},
		{[]byte{0}, ^api.Caps(0), api.KindOk, api.KindOther},
		{[]byte{255}, 0, api.KindErr, api.KindErr},
		{[]byte{255, 0, 0, 0, 0}, deprecates, api.KindErr, api.KindErr},
		{[]byte{251}, files, api.KindFile, api.KindOther},
		{[]byte{251}, ^files, api.KindOther, api.KindOther},
		{[]byte{254}, 0, api.KindOther, api.KindOther},
		{[]byte{254}, deprecates, api.KindOther, api.KindOk},
		{five[:4], 0, api.KindOther, api.KindOther},
		{five, 0, api.KindOther, api.KindEof},
		{append(five, 0), 0, api.KindOther, api.KindOther},
		{five[:4], deprecates, api.KindOther, api.KindOk},
		{five, deprecates, api.KindOther, api.KindOk},
		{append(five, 0), deprecates, api.KindOther, api.KindOk},
		{five, ^deprecates, api.KindOther, api.KindEof},
		{[]byte{1, 254}, ^api.Caps(0), api.KindOther, api.KindOther},
	} {
		wantFirst(t, c.b, c.c, c.first)
		wantLast(t, c.b, c.c, c.last)
	}
}

// TestP14_3EachFlag has each capability alone, and all but it.
func TestP14_3EachFlag(t *testing.T) {
	for bit := range 32 {
		for _, c := range []api.Caps{1 << bit, ^(1 << bit)} {
			wantFirst(t, []byte{251, 97}, c, plainFirst(251, c))
			wantLast(t, []byte{254, 0, 0, 0, 0}, c, plainLast(254, 5, c))
		}
	}
}

// TestP14_3Long has packets of about as many bytes as a frame has at most.
func TestP14_3Long(t *testing.T) {
	b := make([]byte, 1<<24+5)
	for _, first := range []byte{0, 1, 251, 253, 254, 255} {
		b[0] = first
		for _, size := range []int{65535, 65536, 1<<24 - 3, 16777214, 16777215, 16777216, 16777217, 1<<24 + 5} {
			for _, c := range kindCaps() {
				wantFirst(t, b[:size], c, plainFirst(first, c))
				wantLast(t, b[:size], c, plainLast(first, size, c))
			}
		}
	}
	b[0] = 254
	for size, want := range map[int]int{16777214: api.KindOk, 16777215: api.KindOther, 16777216: api.KindOther} {
		wantLast(t, b[:size], deprecates, want)
		wantLast(t, b[:size], 0, api.KindOther)
	}
}

// wantBack asks that what was appended behind b is read back as it was.
func wantBack(t *testing.T, s sample, b []byte) []byte {
	t.Helper()
	out, e := s.put(b)
	if e != api.OK || !bytes.HasPrefix(out, b) {
		t.Fatalf("Append of %s behind %d bytes: %s, %v", s.name, len(b), brief(out), e)
	}
	own := out[len(b):]
	wantRead(t, s.reading, own, s.thing)
	return own
}

func TestP14_4ReadBack(t *testing.T) {
	for _, s := range samples() {
		wantBack(t, s, nil)
		wantBack(t, s, []byte{})
		wantBack(t, s, []byte{254, 0, 255})
	}
}

// TestP14_4Kinds asks First and Last of what was appended.
func TestP14_4Kinds(t *testing.T) {
	for _, s := range samples() {
		own := wantBack(t, s, []byte{1})
		for _, c := range kindCaps() {
			with := c&deprecates != 0
			switch s.thing.(type) {
			case api.Err:
				wantFirst(t, own, c, api.KindErr)
				wantLast(t, own, c, api.KindErr)
			case api.Eof:
				wantFirst(t, own, c, api.KindOther)
				wantLast(t, own, c, map[bool]int{false: api.KindEof, true: api.KindOk}[with])
			case string:
				wantFirst(t, own, c, map[bool]int{false: api.KindOther, true: api.KindFile}[c&files != 0])
				wantLast(t, own, c, api.KindOther)
			case api.Prepared:
				wantFirst(t, own, c, api.KindOk)
				wantLast(t, own, c, api.KindOther)
			case api.Ok:
				wantOkKinds(t, own, c, strings.Contains(s.name, "last true"))
			}
		}
	}
}

// wantOkKinds asks of an OK: told with last it has seven bytes at least, so that it is no EOF.
func wantOkKinds(t *testing.T, own []byte, c api.Caps, last bool) {
	t.Helper()
	if !last {
		wantFirst(t, own, c, api.KindOk)
		wantLast(t, own, c, api.KindOther)
		return
	}
	wantFirst(t, own, c, api.KindOther)
	wantLast(t, own, c, map[bool]int{false: api.KindOther, true: api.KindOk}[c&deprecates != 0])
}

// TestP14_4LongOk has OKs told with last that are just short enough, and just too long: these are read back all the same.
func TestP14_4LongOk(t *testing.T) {
	for size, want := range map[int]int{16777214: api.KindOk, 16777215: api.KindOther, 16777216: api.KindOther} {
		for _, s := range []sample{
			ofOk(deprecates, api.Ok{Info: strings.Repeat("i", size-7)}, true),
			ofOk(deprecates|tracks, api.Ok{Info: strings.Repeat("i", size-11)}, true),
			ofOk(deprecates|tracks, api.Ok{Status: changed, Track: make([]byte, size-12)}, true),
		} {
			own := wantBack(t, s, []byte{1})
			if len(own) != size {
				t.Fatalf("%s has %d bytes", s.name, len(own))
			}
			wantLast(t, own, deprecates, want)
		}
	}
}
