package deflate_test

import (
	"bytes"
	"compress/flate"
	"fmt"
	"io"
	"math"
	"math/rand"
	"slices"
	"strings"
	"testing"

	"sluicegate/api"
	"sluicegate/deflate"
	"sluicegate/inflate"
)

// lit is the pieces of a text's bytes, each by itself.
func lit(s string) []api.Piece {
	var l []api.Piece
	for i := range len(s) {
		l = append(l, api.Piece{Byte: s[i]})
	}
	return l
}

func cop(length, dist int) []api.Piece {
	return []api.Piece{{Len: length, Dist: dist}}
}

// lits is the pieces of as many bytes as are asked for.
func lits(n int) []api.Piece {
	return slices.Repeat(lit("q"), n)
}

func join(parts ...[]api.Piece) []api.Piece {
	return slices.Concat(parts...)
}

// high is n bytes, each another one, that have 9 bits in a fixed block.
func high(n int) []byte {
	b := make([]byte, n)
	for i := range b {
		b[i] = byte(144 + i)
	}
	return b
}

// noise is n bytes by chance, of so many kinds.
func noise(n, kinds int) []byte {
	r := rand.New(rand.NewSource(int64(n*1000 + kinds)))
	b := make([]byte, n)
	for i := range b {
		b[i] = byte(r.Intn(kinds))
	}
	return b
}

// brief shortens what is told of bytes in a failed test.
func brief(b []byte) string {
	if len(b) > 60 {
		return fmt.Sprintf("%v .. (%d bytes)", b[:60], len(b))
	}
	return fmt.Sprint(b)
}

func wantPieces(t *testing.T, name string, b []byte, want []api.Piece) {
	t.Helper()
	if l := deflate.Pieces(b); !slices.Equal(l, want) {
		t.Errorf("%s: Pieces are %v, want %v", name, l, want)
	}
}

func wantExpand(t *testing.T, name string, l []api.Piece, want []byte) {
	t.Helper()
	b, e := deflate.Expand(l)
	if !bytes.Equal(b, want) || e != api.OK {
		t.Errorf("%s: Expand is %s, %v, want %s", name, brief(b), e, brief(want))
	}
}

// wantFixed asks for the bits, and for what both readers make of them.
func wantFixed(t *testing.T, name string, l []api.Piece) {
	t.Helper()
	b, e := deflate.Fixed(l)
	if !bytes.Equal(b, plainFixed(l)) || e != api.OK {
		t.Errorf("%s: Fixed is %s, %v, want %s", name, brief(b), e, brief(plainFixed(l)))
	}
	told, _ := plainExpand(l)
	wantRead(t, name+", Fixed", b, told)
}

// wantRead asks Inflate and the library to read a stream, to its last byte.
func wantRead(t *testing.T, name string, b, want []byte) {
	t.Helper()
	out, n, e := inflate.Inflate(b, len(want))
	if !bytes.Equal(out, want) || n != len(b) || e != api.OK {
		t.Errorf("%s: Inflate tells %d bytes of %d, %v, want %d of %d", name, len(out), n, e, len(want), len(b))
	}
	rest := bytes.NewReader(b)
	out, err := io.ReadAll(flate.NewReader(rest))
	if !bytes.Equal(out, want) || err != nil || rest.Len() != 0 {
		t.Errorf("%s: the library tells %d bytes, %v, want %d; %d are left", name, len(out), err, len(want), rest.Len())
	}
}

// wantError asks both calls that are handed pieces.
func wantError(t *testing.T, name string, l []api.Piece, want api.Errno) {
	t.Helper()
	if b, e := deflate.Expand(l); len(b) != 0 || e != want {
		t.Errorf("%s: Expand is %s, %v, want %v", name, brief(b), e, want)
	}
	if b, e := deflate.Fixed(l); len(b) != 0 || e != want {
		t.Errorf("%s: Fixed is %s, %v, want %v", name, brief(b), e, want)
	}
}

// wantAll holds all that is made of bytes against the plain words, and against what follows.
func wantAll(t *testing.T, name string, b []byte) {
	t.Helper()
	l := plainPieces(b)
	wantPieces(t, name, b, l)
	wantThereAndBack(t, name, b)
	if out, want := deflate.Deflate(b), plainDeflate(b, l); !bytes.Equal(out, want) {
		t.Errorf("%s: Deflate is %s, want %s", name, brief(out), brief(want))
	}
}

// wantThereAndBack asks for what follows alone.
func wantThereAndBack(t *testing.T, name string, b []byte) {
	t.Helper()
	l := deflate.Pieces(b)
	wantExpand(t, name, l, b)
	fixed, e := deflate.Fixed(l)
	if e != api.OK {
		t.Errorf("%s: Fixed is %v", name, e)
	}
	wantRead(t, name+", Fixed", fixed, b)
	wantRead(t, name+", Stored", deflate.Stored(b), b)
	out := deflate.Deflate(b)
	wantRead(t, name+", Deflate", out, b)
	begun := max(1, (len(b)+65534)/65535)
	if len(out) > len(b)+5*begun {
		t.Errorf("%s: Deflate has %d bytes, of %d", name, len(out), len(b))
	}
}

func TestExamples(t *testing.T) {
	wantPieces(t, "abcabcabcd", []byte("abcabcabcd"), join(lit("abc"), cop(6, 3), lit("d")))
	wantPieces(t, "aaaa", []byte("aaaa"), join(lit("a"), cop(3, 1)))
	wantPieces(t, "aaa", []byte("aaa"), lit("aaa"))
	for s, want := range map[string][]byte{"": {3, 0}, "a": {75, 4, 0}, "aaaaaaa": {75, 132, 0, 0}} {
		if b := deflate.Deflate([]byte(s)); !bytes.Equal(b, want) {
			t.Errorf("Deflate of %q: %v, want %v", s, b, want)
		}
	}
	for s, want := range map[string][]byte{"ab": {1, 2, 0, 253, 255, 97, 98}, "": {1, 0, 0, 255, 255}} {
		if b := deflate.Stored([]byte(s)); !bytes.Equal(b, want) {
			t.Errorf("Stored of %q: %v, want %v", s, b, want)
		}
	}
	wantError(t, "a copy of 3 from 1 back", cop(3, 1), api.ErrBad)
	wantError(t, "a copy of 2", cop(2, 1), api.ErrArg)
}

func TestP5_1Pieces(t *testing.T) {
	wantPieces(t, "nil", nil, nil)
	wantPieces(t, "nothing", []byte{}, nil)
	for _, x := range []struct {
		s    string
		want []api.Piece
	}{
		{"x", lit("x")},
		{"xx", lit("xx")},
		{"xy", lit("xy")},
		{"xyz", lit("xyz")},
		{"abab", lit("abab")},
		{"ababa", join(lit("ab"), cop(3, 2))},
		{"abcab", lit("abcab")},
		{"abcabc", join(lit("abc"), cop(3, 3))},
		{"\x00\x00\x00\x00", join(lit("\x00"), cop(3, 1))},
		{"\xff\xff\xff\xff\xff", join(lit("\xff"), cop(4, 1))},
		{"abcXabcYabcZ", join(lit("abcX"), cop(3, 4), lit("Y"), cop(3, 4), lit("Z"))},
		{"abcdXabcdYabcZabcd", join(lit("abcdX"), cop(4, 5), lit("Y"), cop(3, 5), lit("Z"), cop(4, 9))},
		{"abcdeXabcYabcde", join(lit("abcdeX"), cop(3, 6), lit("Y"), cop(5, 10))},
		{"abcXabcdYabcd", join(lit("abcX"), cop(3, 4), lit("dY"), cop(4, 5))},
		// No longer copy one byte on is waited for.
		{"abcXbcdefYabcdef", join(lit("abcXbcdefY"), cop(3, 10), cop(3, 7))},
		// A copy may begin within an earlier copy, and reach from one into the next.
		{"abcabcabXcabX", join(lit("abc"), cop(5, 3), lit("X"), cop(4, 4))},
	} {
		wantPieces(t, x.s, []byte(x.s), x.want)
	}
}

func TestP5_1Lengths(t *testing.T) {
	text := string(noise(300, 256))
	for n := 3; n <= 258; n++ {
		s := text[:n] + "\x01\x02" + text[:n]
		l := deflate.Pieces([]byte(s))
		if last := l[len(l)-1]; last != (api.Piece{Len: n, Dist: n + 2}) {
			t.Errorf("a text of %d again: the last piece is %v", n, last)
		}
	}
	for n := 259; n <= 260; n++ {
		s := text[:n] + "\x01\x02" + text[:n]
		l := deflate.Pieces([]byte(s))
		want := join(cop(258, n+2), lit(text[258:n]))
		if tail := l[len(l)-len(want):]; !slices.Equal(tail, want) {
			t.Errorf("a text of %d again: the last pieces are %v, want %v", n, tail, want)
		}
	}
	// Of what is left of it a copy again, as soon as there are 3 bytes.
	l := deflate.Pieces([]byte(text[:261] + "\x01\x02" + text[:261]))
	if tail := l[len(l)-2:]; !slices.Equal(tail, join(cop(258, 263), cop(3, 263))) {
		t.Errorf("a text of 261 again: the last pieces are %v", tail)
	}
}

func TestP5_1AllTheSame(t *testing.T) {
	for n := 1; n <= 2000; n++ {
		want := lit("s")
		left := n - 1
		for ; left >= 3; left -= min(left, 258) {
			want = append(want, api.Piece{Len: min(left, 258), Dist: 1})
		}
		want = append(want, lit("ss"[:left])...)
		wantPieces(t, fmt.Sprint(n, " times the same"), bytes.Repeat([]byte("s"), n), want)
	}
	wantAll(t, "all the same", bytes.Repeat([]byte("s"), 2000))
	wantThereAndBack(t, "all the same, much", bytes.Repeat([]byte("s"), 300000))
}

// apart has a text again so far behind itself, with nothing like it in between.
func apart(s string, dist int, again string) []byte {
	return []byte(s + strings.Repeat("-", dist-len(s)) + again)
}

func TestP5_1FarBack(t *testing.T) {
	for _, dist := range []int{4, 300, 32766, 32767, 32768} {
		l := deflate.Pieces(apart("XYZ", dist, "XYZ"))
		if last := l[len(l)-1]; last != (api.Piece{Len: 3, Dist: dist}) {
			t.Errorf("from %d back: the last piece is %v", dist, last)
		}
		wantAll(t, fmt.Sprint("from ", dist, " back"), apart("XYZ", dist, "XYZ"))
	}
	for _, dist := range []int{32769, 32770, 40000, 65536, 65537} {
		l := deflate.Pieces(apart("XYZ", dist, "XYZ"))
		if tail := l[len(l)-3:]; !slices.Equal(tail, lit("XYZ")) {
			t.Errorf("from %d back: the last pieces are %v", dist, tail)
		}
		wantAll(t, fmt.Sprint("from ", dist, " back"), apart("XYZ", dist, "XYZ"))
	}
	// The first byte stands too far back: all from the second one on may be had.
	l := deflate.Pieces(apart("WXYZ", 32769, "WXYZ"))
	if tail := l[len(l)-4:]; !slices.Equal(tail, lit("WXYZ")) {
		t.Errorf("4 bytes from 32769 back: the last pieces are %v", tail)
	}
	l = deflate.Pieces(apart("VWXYZ", 32769, "WXYZ"))
	if last := l[len(l)-1]; last != (api.Piece{Len: 4, Dist: 32768}) {
		t.Errorf("4 bytes from 32768 back: the last piece is %v", last)
	}
	// A longer one that stands too far back does not count beside a shorter one; a byte nearer it would.
	near := apart("WXYZ", 32759, "WXY=======WXYZ")
	l = deflate.Pieces(near)
	if tail := l[len(l)-2:]; !slices.Equal(tail, join(cop(3, 10), lit("Z"))) {
		t.Errorf("a longer one from 32769 back: the last pieces are %v", tail)
	}
	l = deflate.Pieces(apart("WXYZ", 32758, "WXY=======WXYZ"))
	if last := l[len(l)-1]; last != (api.Piece{Len: 4, Dist: 32768}) {
		t.Errorf("a longer one from 32768 back: the last piece is %v", last)
	}
	// As far as may be, and as long as may be.
	text := string(noise(258, 256))
	l = deflate.Pieces(apart(text, 32768, text+text))
	if tail := l[len(l)-2:]; !slices.Equal(tail, join(cop(258, 32768), cop(258, 258))) {
		t.Errorf("258 from 32768 back: the last pieces are %v", tail)
	}
}

// TestP5_1ManyPlaces has the longest copy behind thousands of shorter ones that begin with the same three bytes.
func TestP5_1ManyPlaces(t *testing.T) {
	text := "abcdefgh"
	for i := range 6000 {
		text += "abc" + string(rune('0'+i%7)) + string(rune('0'+i%5))
	}
	text += "!"
	l := deflate.Pieces([]byte(text + "abcdefgh"))
	if last := l[len(l)-1]; last != (api.Piece{Len: 8, Dist: len(text)}) {
		t.Errorf("the last piece is %v, want a copy of 8 from %d back", last, len(text))
	}
}

// TestP5_1AllSmall goes over all short texts of few letters.
func TestP5_1AllSmall(t *testing.T) {
	for _, x := range []struct{ letters, most int }{{1, 20}, {2, 11}, {3, 7}} {
		var texts func(b []byte)
		texts = func(b []byte) {
			wantAll(t, fmt.Sprintf("%q", b), b)
			if len(b) < x.most {
				for c := range x.letters {
					texts(append(b, byte('a'+c)))
				}
			}
		}
		texts(nil)
	}
}

func TestP5_1Drawn(t *testing.T) {
	for _, n := range []int{10, 100, 1000, 5000} {
		for _, kinds := range []int{1, 2, 3, 10, 256} {
			wantAll(t, fmt.Sprint(n, " bytes of ", kinds), noise(n, kinds))
		}
	}
	wantAll(t, "more than reaches back", noise(36000, 4))
	wantAll(t, "triples that stand at thousands of places", noise(34000, 2))
	wantAll(t, "more than twice what reaches back", bytes.Repeat(noise(22222, 256), 4)[:70000])
	wantAll(t, "the same from 32768 back", bytes.Repeat(noise(32768, 256), 3)[:80000])
	wantAll(t, "the same from 32769 back", bytes.Repeat(noise(32769, 256), 2)[:40000])
}

func TestP5_1Expand(t *testing.T) {
	wantExpand(t, "nil", nil, nil)
	wantExpand(t, "nothing", []api.Piece{}, nil)
	for c := range 256 {
		wantExpand(t, fmt.Sprint("byte ", c), []api.Piece{{Byte: byte(c)}}, []byte{byte(c)})
	}
	wantExpand(t, "copies into themselves", join(lit("ab"), cop(7, 2), lit("c"), cop(3, 1)), []byte("ababababacccc"))
	wantExpand(t, "a copy up to the first byte", join(lit("abcd"), cop(4, 4)), []byte("abcdabcd"))
	wantExpand(t, "a copy of noughts", join(lit("\x00"), cop(258, 1)), make([]byte, 259))
	wantExpand(t, "copies that Pieces would not take", join(lit("aaaa"), cop(3, 4), cop(3, 2), lit("a")), []byte("aaaaaaaaaaa"))
	far := join(lit("X"), lits(32767), cop(3, 32768))
	wantExpand(t, "a copy from 32768 back", far, []byte("X"+strings.Repeat("q", 32767)+"Xqq"))
	for length := 3; length <= 258; length++ {
		want := strings.Repeat("xyz", 87)[:3+length]
		wantExpand(t, fmt.Sprint("a copy of ", length), join(lit("xyz"), cop(length, 3)), []byte(want))
	}
}

// wrongPieces may not be, wherever they stand.
func wrongPieces() []api.Piece {
	return []api.Piece{
		{Len: 1, Dist: 1}, {Len: 2, Dist: 1}, {Len: 259, Dist: 1}, {Len: -1, Dist: 1}, {Len: -3, Dist: 1},
		{Len: 1}, {Len: 2}, {Len: -1}, {Len: 259}, {Len: 1<<32 + 3, Dist: 1},
		{Len: math.MaxInt, Dist: 1}, {Len: math.MinInt, Dist: 1},
		{Len: 3}, {Len: 258}, {Len: 3, Dist: 32769}, {Len: 258, Dist: 32769}, {Len: 3, Dist: -1},
		{Len: 3, Dist: math.MaxInt}, {Len: 3, Dist: math.MinInt}, {Len: 3, Dist: 1<<32 + 1},
		{Byte: 'a', Dist: 1}, {Dist: 1}, {Dist: -1}, {Dist: 32768}, {Dist: math.MinInt}, {Dist: math.MaxInt},
		{Len: 3, Dist: 1, Byte: 'a'}, {Len: 258, Dist: 1, Byte: 1}, {Len: 3, Dist: 1, Byte: 255},
		{Len: 2, Byte: 'a'}, {Len: -1, Dist: -1, Byte: 1}, {Len: 259, Dist: 32769, Byte: 1},
	}
}

func TestP5_1WrongPieces(t *testing.T) {
	many := lits(32769)
	for _, p := range wrongPieces() {
		wrong := []api.Piece{p}
		wantError(t, fmt.Sprint(p, " alone"), wrong, api.ErrArg)
		wantError(t, fmt.Sprint(p, " behind bytes"), join(many, wrong), api.ErrArg)
		wantError(t, fmt.Sprint(p, " ahead of bytes"), join(lit("a"), wrong, lit("b")), api.ErrArg)
		// Two errors: the one of the first piece counts.
		wantError(t, fmt.Sprint(p, " ahead of a copy beyond"), join(wrong, cop(3, 1)), api.ErrArg)
		wantError(t, fmt.Sprint(p, " behind a copy beyond"), join(lit("ab"), cop(3, 3), wrong), api.ErrBad)
		wantError(t, fmt.Sprint(p, " behind a copy beyond, at once"), join(cop(3, 1), wrong), api.ErrBad)
	}
	// A piece that may not be and is beyond too: what it may not be is named first.
	wantError(t, "a copy with a byte, beyond", []api.Piece{{Len: 3, Dist: 5, Byte: 1}}, api.ErrArg)
	wantError(t, "a copy of 259, beyond", join(lit("ab"), cop(259, 3)), api.ErrArg)
}

func TestP5_1Beyond(t *testing.T) {
	for _, dist := range []int{1, 2, 3, 257, 258, 259, 32767, 32768} {
		for _, length := range []int{3, 4, 258} {
			name := fmt.Sprint("a copy of ", length, " from ", dist, " back")
			wantError(t, name+" of one byte fewer", join(lits(dist-1), cop(length, dist)), api.ErrBad)
			wantError(t, name+" of no bytes", cop(length, dist), api.ErrBad)
			wantExpand(t, name, join(lits(dist), cop(length, dist)), bytes.Repeat([]byte("q"), dist+length))
			wantFixed(t, name, join(lits(dist), cop(length, dist)))
		}
	}
	// The bytes of copies count, all of them.
	wantError(t, "a copy beyond a copy", join(lit("a"), cop(258, 1), cop(3, 260)), api.ErrBad)
	wantFixed(t, "a copy up to the first byte, behind a copy", join(lit("a"), cop(258, 1), cop(3, 259)))
}

// TestP5_1DrawnPieces draws pieces, some of them wrong, and holds the answers against the plain words.
func TestP5_1DrawnPieces(t *testing.T) {
	r := rand.New(rand.NewSource(51))
	seen := map[api.Errno]int{}
	for range 20000 {
		l := lits(r.Intn(4))
		for range r.Intn(12) {
			p := api.Piece{Len: 3 + r.Intn(10), Dist: 1 + r.Intn(1+len(l)*2)}
			switch r.Intn(20) {
			case 0:
				p = wrongPieces()[r.Intn(len(wrongPieces()))]
			case 1, 2, 3, 4, 5, 6, 7, 8, 9:
				p = api.Piece{Byte: byte(r.Intn(256))}
			}
			l = append(l, p)
		}
		want, e := plainExpand(l)
		seen[e]++
		if e != api.OK {
			wantError(t, fmt.Sprint(l), l, e)
			continue
		}
		wantExpand(t, fmt.Sprint(l), l, want)
		wantFixed(t, fmt.Sprint(l), l)
	}
	for _, e := range []api.Errno{api.OK, api.ErrArg, api.ErrBad} {
		if seen[e] < 1000 {
			t.Errorf("%v was drawn %d times alone", e, seen[e])
		}
	}
}

func TestP5_2FixedBytes(t *testing.T) {
	wantFixed(t, "nothing", nil)
	var all []api.Piece
	for c := range 256 {
		all = append(all, api.Piece{Byte: byte(c)})
		wantFixed(t, fmt.Sprint("byte ", c), all[c:])
	}
	wantFixed(t, "all bytes", all)
}

func TestP5_2FixedLengths(t *testing.T) {
	all := lit("xyz")
	for length := 3; length <= 258; length++ {
		wantFixed(t, fmt.Sprint("a copy of ", length), join(lit("xyz"), cop(length, 3), lit("!")))
		all = append(all, api.Piece{Len: length, Dist: 3})
	}
	wantFixed(t, "copies of all lengths", all)
	// The greatest length by its own symbol: 3 bits, 8 for a byte, 8 for 285, 5 for the distance, 7 for the end, and no field.
	b, _ := deflate.Fixed(join(lit("x"), cop(258, 1)))
	if want := plainBytes("110" + "10101000" + "11000101" + "00000" + "0000000"); !bytes.Equal(b, want) {
		t.Errorf("a copy of 258: Fixed is %v, want %v", b, want)
	}
	b, _ = deflate.Fixed(join(lit("x"), cop(257, 1)))
	if want := plainBytes("110" + "10101000" + "11000100" + "01111" + "00000" + "0000000"); !bytes.Equal(b, want) {
		t.Errorf("a copy of 257: Fixed is %v, want %v", b, want)
	}
}

func TestP5_2FixedDistances(t *testing.T) {
	text := noise(200, 256)
	l := lit(string(text))
	for made := len(text); made < 32768; made += 258 {
		l = append(l, api.Piece{Len: 258, Dist: 200})
	}
	l = append(l, lit("behind all of these")...)
	for dist := 1; dist <= 32768; dist++ {
		l = append(l, api.Piece{Len: 3, Dist: dist})
	}
	wantFixed(t, "copies of all distances", l)
}

// TestP5_2BitsBehind has streams that end at each of a byte's bits.
func TestP5_2BitsBehind(t *testing.T) {
	ends := map[int]bool{}
	for n := range 64 {
		l := lit(string(slices.Repeat([]byte{255}, n)))
		bits := len(plainBits(l))
		ends[bits%8] = true
		b, e := deflate.Fixed(l)
		if len(b) != (bits+7)/8 || e != api.OK {
			t.Errorf("%d bytes: Fixed has %d bytes for %d bits, %v", n, len(b), bits, e)
			continue
		}
		if rest := bits % 8; rest != 0 && b[len(b)-1]>>rest != 0 {
			t.Errorf("%d bytes: of %d bits the last byte is %08b", n, bits, b[len(b)-1])
		}
	}
	if len(ends) != 8 {
		t.Errorf("streams end at %v alone", ends)
	}
	// A block of nothing has 10 bits, its end being 7 noughts: 6 bits are behind the last one.
	if b, _ := deflate.Fixed(nil); !bytes.Equal(b, []byte{3, 0}) {
		t.Errorf("Fixed of nothing is %v", b)
	}
}

// TestP5_2FixedOfMuch has pieces that make far more bytes than their stream has.
func TestP5_2FixedOfMuch(t *testing.T) {
	wantFixed(t, "much of the same", join(lit("m"), slices.Repeat(cop(258, 1), 20000)))
}

func TestP5_2Stored(t *testing.T) {
	for _, n := range []int{0, 1, 2, 255, 256, 257, 65534, 65535, 65536, 65537, 131069, 131070, 131071, 196605, 200000} {
		b := noise(n, 256)
		out := deflate.Stored(b)
		if !bytes.Equal(out, plainStored(b)) {
			t.Errorf("Stored of %d bytes is %s, want %s", n, brief(out), brief(plainStored(b)))
		}
		wantRead(t, fmt.Sprint(n, " bytes stored"), out, b)
		blocks := max(1, (n+65534)/65535)
		if len(out) != n+5*blocks {
			t.Errorf("Stored of %d bytes has %d bytes", n, len(out))
		}
		l, e := inflate.Blocks(out, n)
		if len(l) != blocks || e != api.OK {
			t.Errorf("Stored of %d bytes: blocks %v, %v", n, l, e)
			continue
		}
		for i, block := range l {
			want := api.Block{Kind: 0, Last: i == blocks-1, At: i * 65540 * 8, Out: min(65535, n-65535*i)}
			if block != want {
				t.Errorf("Stored of %d bytes: block %d is %v, want %v", n, i, block, want)
			}
		}
	}
	if b := deflate.Stored(nil); !bytes.Equal(b, []byte{1, 0, 0, 255, 255}) {
		t.Errorf("Stored of nil is %v", b)
	}
}

func TestP5_2Deflate(t *testing.T) {
	if b := deflate.Deflate(nil); !bytes.Equal(b, []byte{3, 0}) {
		t.Errorf("Deflate of nil is %v", b)
	}
	// Bytes of 9 bits each: 30 of them make a fixed stream of 280 bits, 35 bytes; the stored one has 35 as well. With one more it is 37 to 36.
	for n := range 100 {
		b := high(n)
		fixed, _ := deflate.Fixed(lit(string(b)))
		stored := deflate.Stored(b)
		want := fixed
		if n >= 31 {
			want = stored
		}
		if out := deflate.Deflate(b); !bytes.Equal(out, want) {
			t.Errorf("Deflate of %d high bytes: %s, want %s", n, brief(out), brief(want))
		}
		if n == 30 && len(fixed) != len(stored) || n == 31 && len(fixed) != len(stored)+1 {
			t.Errorf("%d high bytes: fixed in %d bytes, stored in %d", n, len(fixed), len(stored))
		}
	}
	wantJustLonger(t)
}

// wantJustLonger goes over bytes of 8 and of 9 bits, so that both streams are equally long, and one of them is a byte longer, at many lengths.
func wantJustLonger(t *testing.T) {
	same, more := 0, 0
	for nine := 25; nine <= 112; nine++ {
		for eight := range 140 {
			b := high(nine)
			for i := range eight {
				b = append(b, byte(i))
			}
			fixed, stored := plainFixed(lit(string(b))), plainStored(b)
			want := fixed
			switch len(fixed) - len(stored) {
			case 0:
				same++
			case 1:
				more++
				want = stored
			default:
				continue
			}
			if out := deflate.Deflate(b); !bytes.Equal(out, want) {
				t.Errorf("Deflate of %d and %d bytes: %s, want %s", nine, eight, brief(out), brief(want))
			}
		}
	}
	if same < 100 || more < 100 {
		t.Errorf("equally long ones: %d, one byte longer: %d", same, more)
	}
}

func TestP5_3ThereAndBack(t *testing.T) {
	words := strings.Repeat("select a, b from t where c = 'd' and e = 17; ", 2000)
	for _, n := range []int{0, 1, 2, 3, 4, 100, 32767, 32768, 32769, 33000, 65534, 65535, 65536, 90000} {
		wantThereAndBack(t, fmt.Sprint(n, " bytes of words"), []byte(words[:n]))
		wantThereAndBack(t, fmt.Sprint(n, " bytes of noise"), noise(n, 256))
		wantThereAndBack(t, fmt.Sprint(n, " noughts"), make([]byte, n))
	}
	wantThereAndBack(t, "131070 bytes of noise", noise(131070, 256))
	wantThereAndBack(t, "131071 bytes of noise", noise(131071, 256))
	mixed := slices.Concat(noise(40000, 256), noise(40000, 3), noise(40000, 256), make([]byte, 40000))
	wantThereAndBack(t, "mixed bytes", mixed)
}

// TestP5_3AsLongAsMayBe has bytes that can't be made shorter: the bound is reached.
func TestP5_3AsLongAsMayBe(t *testing.T) {
	for n, want := range map[int]int{1000: 1005, 65534: 65539, 65535: 65540, 65536: 65546, 131070: 131080, 131071: 131086} {
		if out := deflate.Deflate(noise(n, 256)); len(out) != want {
			t.Errorf("Deflate of %d bytes has %d, want %d", n, len(out), want)
		}
	}
}

// TestWhatIsHandedInStays asks too that nothing behind a list's end is read or written.
func TestWhatIsHandedInStays(t *testing.T) {
	whole := []byte("abcabcabcabcabcabcabc")
	b, kept := whole[:9:len(whole)], slices.Clone(whole)
	wantPieces(t, "a list with spare room", b, join(lit("abc"), cop(6, 3)))
	wantThereAndBack(t, "a list with spare room", b)
	if !bytes.Equal(whole, kept) {
		t.Errorf("the bytes are %q now", whole)
	}
	l := join(lit("ab"), cop(5, 2), cop(3, 8), cop(3, 1))
	keptPieces := slices.Clone(l)
	deflate.Expand(l[:3])
	deflate.Fixed(l[:3])
	deflate.Expand(l[:4])
	deflate.Fixed(l[:4])
	if !slices.Equal(l, keptPieces) {
		t.Errorf("the pieces are %v now", l)
	}
}

// TestAnswersAreNew spoils what was handed in and what was answered, and asks again.
func TestAnswersAreNew(t *testing.T) {
	text := []byte("an answer is new memory, an answer is new memory")
	b := slices.Clone(text)
	l := deflate.Pieces(b)
	answers := func(b []byte, l []api.Piece) [][]byte {
		expanded, _ := deflate.Expand(l)
		fixed, _ := deflate.Fixed(l)
		return [][]byte{expanded, fixed, deflate.Stored(b), deflate.Deflate(b)}
	}
	first := answers(b, l)
	var kept [][]byte
	for _, a := range first {
		kept = append(kept, slices.Clone(a))
	}
	clear(b)
	clear(l)
	for i := range first {
		if !bytes.Equal(first[i], kept[i]) {
			t.Errorf("answer %d hangs on what was handed in", i)
		}
		for j := range first {
			if i != j {
				clear(first[j][:cap(first[j])])
			}
		}
		if !bytes.Equal(first[i], kept[i]) {
			t.Errorf("answer %d shares memory", i)
		}
		first = answers(text, deflate.Pieces(text))
		if !slices.EqualFunc(first, kept, bytes.Equal) {
			t.Errorf("asked again the answers are others")
		}
	}
}
