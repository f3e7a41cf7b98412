package inflate_test

import (
	"bytes"
	"compress/flate"
	"fmt"
	"math"
	"math/rand"
	"slices"
	"strings"
	"testing"

	"sluicegate/api"
	"sluicegate/inflate"
)

func begin() *writer { return &writer{} }

// told is what a stream must tell, to the last byte of b.
type told struct {
	name string
	b    []byte
	out  string
}

// wrong is a stream that must not be read.
type wrong struct {
	name string
	b    []byte
	most int
	e    api.Errno
}

const plenty = 1 << 20

func wantTold(t *testing.T, x told) {
	t.Helper()
	wantRead(t, x.name, x.b, len(x.out), x.out, len(x.b))
}

// wantRead asks both calls, and whether the blocks are what plain words say.
func wantRead(t *testing.T, name string, b []byte, most int, want string, size int) {
	t.Helper()
	out, n, e := inflate.Inflate(b, most)
	if string(out) != want || n != size || e != api.OK {
		t.Errorf("%s: Inflate tells %d bytes of %d, %v; want %d of %d", name, len(out), n, e, len(want), size)
	}
	_, _, plainBlocks, _ := plainly(b, most)
	blocks, e := inflate.Blocks(b, most)
	if !slices.Equal(blocks, plainBlocks) || len(blocks) == 0 || e != api.OK {
		t.Errorf("%s: Blocks are %v, %v; want %v", name, blocks, e, plainBlocks)
	}
}

func wantError(t *testing.T, x wrong) {
	t.Helper()
	out, n, e := inflate.Inflate(x.b, x.most)
	if out != nil || n != 0 || e != x.e {
		t.Errorf("%s: Inflate is %d bytes, %d, %v; want nothing, 0, %v", x.name, len(out), n, e, x.e)
	}
	blocks, e := inflate.Blocks(x.b, x.most)
	if blocks != nil || e != x.e {
		t.Errorf("%s: Blocks are %v, %v; want nothing, %v", x.name, blocks, e, x.e)
	}
}

// wantPlain holds both calls against the plain reading of the same bytes, and answers its error.
func wantPlain(t *testing.T, b []byte, most int) api.Errno {
	t.Helper()
	wantOut, wantN, wantBlocks, wantE := plainly(b, most)
	out, n, e := inflate.Inflate(b, most)
	if !bytes.Equal(out, wantOut) || n != wantN || e != wantE {
		t.Errorf("Inflate of %v, %d: %v, %d, %v; want %v, %d, %v", b, most, out, n, e, wantOut, wantN, wantE)
	}
	blocks, e := inflate.Blocks(b, most)
	if !slices.Equal(blocks, wantBlocks) || e != wantE {
		t.Errorf("Blocks of %v, %d: %v, %v; want %v, %v", b, most, blocks, e, wantBlocks, wantE)
	}
	return wantE
}

// drawn is n bytes that have some order in them.
func drawn(n int) []byte {
	r := rand.New(rand.NewSource(int64(n)))
	b := make([]byte, n)
	for i := range b {
		b[i] = byte(r.Intn(1 + i%251))
	}
	return b
}

// packed is what the library makes of bytes, at one of its levels.
func packed(t *testing.T, b []byte, level int) []byte {
	t.Helper()
	var w bytes.Buffer
	z, err := flate.NewWriter(&w, level)
	if err != nil {
		t.Fatal(err)
	}
	z.Write(b)
	z.Close()
	return w.Bytes()
}

// threes has a literal code of a, b, 256 and a copy of 3, 2 bits each.
func threes(count int) []int {
	return lengthsOf(count, 'a', 2, 'b', 2, 256, 2, 257, 2)
}

// rights are streams of all kinds.
func rights() []told {
	long := strings.Repeat("0123456789abcdef", 2048)
	return []told{
		{"a stored block of nothing", begin().stored(1, nil).bytes(), ""},
		{"a stored block", begin().stored(1, []byte("stored")).bytes(), "stored"},
		{"stored, all bits passed over being 1", begin().head(1, 0).toByte("1").field(1, 16).field(65534, 16).field('x', 8).bytes(), "x"},
		{"a fixed block of nothing", begin().fixed(1).end().bytes(), ""},
		{"a fixed block", begin().fixed(1).text("a\x00\x8f\x90\xff").end().bytes(), "a\x00\x8f\x90\xff"},
		{"a fixed block that ends at a byte's end", begin().fixed(1).text("\x90\x91\x92\x93\x94\x95").end().bytes(), "\x90\x91\x92\x93\x94\x95"},
		{"a copy of 3 from 1 back", begin().fixed(1).text("z").copy(3, 1).end().bytes(), "zzzz"},
		{"a copy that goes on within itself", begin().fixed(1).text("abc").copy(10, 3).end().bytes(), "abcabcabcabca"},
		{"a copy of just what was told", begin().fixed(1).text("abcd").copy(4, 4).end().bytes(), "abcdabcd"},
		{"a copy of 258 from 1 back", begin().fixed(1).text("q").copy(258, 1).end().bytes(), strings.Repeat("q", 259)},
		{"a copy of 258 by 284", begin().fixed(1).text("q").symbols(284).field(31, 5).distance(1).end().bytes(), strings.Repeat("q", 259)},
		{"a copy from 32768 back", begin().stored(0, []byte(long)).fixed(1).copy(5, 32768).end().bytes(), long + "01234"},
		{"a copy from the first byte of many", begin().stored(0, []byte("X" + long)[:32768]).fixed(1).copy(3, 32768).end().bytes(), ("X" + long)[:32768] + "X01"},
		{"a dynamic block", begin().dynamic(1, threes(258), []int{1, 1}).text("ab").copy(3, 2).text("b").copy(3, 1).end().bytes(), "abababbbb"},
		{"a dynamic block of nothing", begin().dynamic(1, lengthsOf(257, 256, 1), []int{0}).end().bytes(), ""},
		{"L 286 and D 30", begin().dynamic(1, lengthsOf(286, 'a', 2, 256, 2, 285, 1), lengthsOf(30, 0, 1, 29, 1)).text("a").copy(258, 1).end().bytes(), strings.Repeat("a", 259)},
		{"no distance code", begin().dynamic(1, lengthsOf(257, 'a', 1, 256, 1), []int{0}).text("aa").end().bytes(), "aa"},
		{"no distance code, of 30 lengths", begin().dynamic(1, threes(258), same(0, 30)).text("ab").end().bytes(), "ab"},
		{"one distance of 1 bit", begin().dynamic(1, threes(258), lengthsOf(3, 2, 1)).text("abb").copy(3, 3).end().bytes(), "abbabb"},
		{"tight lengths", begin().tight(1, threes(258), []int{1, 1}).text("ab").end().bytes(), "ab"},
		{"codes of 15 bits", begin().dynamic(1, deep(257), deep(30)).text("\x00\x0e").end().bytes(), "\x00\x0e"},
		{"all kinds", begin().fixed(0).text("one ").end().stored(0, []byte("two ")).dynamic(0, threes(258), []int{1, 1}).text("ab").end().fixed(0).end().stored(0, nil).fixed(1).copy(4, 10).end().bytes(), "one two abone "},
		{"many blocks of nothing", manyBlocks(300), ""},
	}
}

// deep has one symbol of each length from 1 to 15 and one more of 15, the last being the end.
func deep(count int) []int {
	lengths := same(0, count)
	for i := range 15 {
		lengths[i] = i + 1
	}
	lengths[count-1] = 15
	return lengths
}

func manyBlocks(n int) []byte {
	w := begin()
	for range n - 1 {
		w.fixed(0).end()
	}
	return w.fixed(1).end().bytes()
}

func TestExamples(t *testing.T) {
	wantRead(t, "a fixed block without anything", []byte{3, 0}, 9, "", 2)
	wantRead(t, "a", []byte{75, 4, 0}, 9, "a", 3)
	wantError(t, wrong{"a without its end", []byte{75, 4}, 9, api.ErrShort})
	wantRead(t, "a and a copy of 6 from 1 back", []byte{75, 132, 0, 0}, 9, "aaaaaaa", 4)
	wantRead(t, "stored", []byte{1, 2, 0, 253, 255, 97, 98}, 9, "ab", 7)
	wantError(t, wrong{"stored, one too many", []byte{1, 2, 0, 253, 255, 97, 98}, 1, api.ErrLong})
	wantError(t, wrong{"kind 3", []byte{7}, 9, api.ErrBad})
	wantError(t, wrong{"two numbers that do not go together", []byte{1, 2, 0, 0, 0, 97, 98}, 9, api.ErrBad})
}

func TestP4_1Right(t *testing.T) {
	for _, x := range rights() {
		wantTold(t, x)
	}
}

func TestP4_1Stored(t *testing.T) {
	for _, n := range []int{0, 1, 2, 255, 256, 257, 32768, 65534, 65535} {
		b := drawn(n)
		wantTold(t, told{fmt.Sprint("stored ", n), begin().stored(1, b).bytes(), string(b)})
		wantTold(t, told{fmt.Sprint("stored twice ", n), begin().stored(0, b).stored(1, b).bytes(), string(b) + string(b)})
	}
	// Fixed blocks of 10 bits each ahead of it let the head stand at each place of a byte.
	for ahead := range 9 {
		w := begin()
		for range ahead {
			w.fixed(0).end()
		}
		wantTold(t, told{fmt.Sprint("blocks ahead: ", ahead), w.stored(1, []byte("abc")).bytes(), "abc"})
	}
}

func TestP4_1Literals(t *testing.T) {
	w, all := begin().fixed(1), ""
	for c := range 256 {
		w.symbols(c)
		all += string([]byte{byte(c)})
		one := string([]byte{byte(c)})
		wantTold(t, told{fmt.Sprint("byte ", c), begin().fixed(1).symbols(c).end().bytes(), one})
	}
	wantTold(t, told{"all bytes", w.end().bytes(), all})
}

func TestP4_1Lengths(t *testing.T) {
	for length := 3; length <= 258; length++ {
		x := told{fmt.Sprint("length ", length), begin().fixed(1).text("xyz").copy(length, 3).text("!").end().bytes(), strings.Repeat("xyz", 87)[:3+length] + "!"}
		wantTold(t, x)
	}
	for symbol := 257; symbol <= 285; symbol++ {
		base, bits := plainLength(symbol)
		for _, field := range []int{0, 1<<bits - 1} {
			b := begin().fixed(1).text("x").symbols(symbol).field(field, bits).distance(1).end().bytes()
			wantTold(t, told{fmt.Sprint("symbol ", symbol), b, strings.Repeat("x", 1+base+field)})
		}
	}
}

func TestP4_1Distances(t *testing.T) {
	ahead := drawn(32768)
	for symbol := range 30 {
		base, bits := plainDistance(symbol)
		for _, distance := range []int{base, base + 1<<bits/2, base + 1<<bits - 1} {
			told := ahead[:distance]
			w := begin().stored(0, told).fixed(1).symbols(257).code(texts(same(5, 32)), symbol).field(distance-base, bits).end()
			out, n, e := inflate.Inflate(w.bytes(), plenty)
			want := slices.Clone(told)
			for range 3 {
				want = append(want, want[len(want)-distance])
			}
			if !bytes.Equal(out, want) || n != len(w.b) || e != api.OK {
				t.Errorf("distance %d: %d bytes, %d, %v", distance, len(out), n, e)
			}
			if distance > 1 {
				w = begin().stored(0, told[1:]).fixed(1).symbols(257).code(texts(same(5, 32)), symbol).field(distance-base, bits).end()
				wantError(t, wrong{fmt.Sprint("distance ", distance, " of one byte less"), w.bytes(), plenty, api.ErrBad})
			}
		}
	}
}

func TestP4_1DistancesOfManyBytes(t *testing.T) {
	ahead := drawn(100000)
	w := begin().stored(0, ahead[:65535]).stored(0, ahead[65535:]).fixed(1).copy(258, 32768).copy(258, 1).copy(100, 300).end()
	want := slices.Clone(ahead)
	for _, c := range [][2]int{{258, 32768}, {258, 1}, {100, 300}} {
		for range c[0] {
			want = append(want, want[len(want)-c[1]])
		}
	}
	wantTold(t, told{"a window that slid", w.bytes(), string(want)})
}

func TestP4_1OfTheLibrary(t *testing.T) {
	texts := [][]byte{nil, []byte("a"), []byte("abracadabra"), drawn(1000), bytes.Repeat([]byte("sluice gate "), 1000), drawn(70000), make([]byte, 100000)}
	for i, text := range texts {
		for _, level := range []int{flate.HuffmanOnly, 0, 1, 6, 9} {
			b := packed(t, text, level)
			out, n, e := inflate.Inflate(b, len(text))
			if !bytes.Equal(out, text) || n != len(b) || e != api.OK {
				t.Errorf("text %d, level %d: %d bytes of %d, %v", i, level, len(out), n, e)
			}
			blocks, e := inflate.Blocks(b, len(text))
			wantChain(t, blocks, b, text)
			if e != api.OK {
				t.Errorf("text %d, level %d: %v", i, level, e)
			}
		}
	}
}

func bitOf(b []byte, i int) int {
	return int(b[i/8] >> (i % 8) & 1)
}

// wantChain asks what follows of blocks: each begins where the stream that ends ahead of it would, and together they tell all.
func wantChain(t *testing.T, blocks []api.Block, b, text []byte) {
	t.Helper()
	at, sum := 0, 0
	for i, block := range blocks {
		if i > 0 && block.At < at+10 || i == 0 && block.At != 0 {
			t.Errorf("block %d begins at %d, behind one at %d", i, block.At, at)
		}
		last, kind := bitOf(b, block.At), bitOf(b, block.At+1)+2*bitOf(b, block.At+2)
		if kind != block.Kind || last == 1 != block.Last {
			t.Errorf("block %d: %v, but its head says %d, %d", i, block, last, kind)
		}
		if block.Last != (i == len(blocks)-1) {
			t.Errorf("block %d of %d: Last is %v", i, len(blocks), block.Last)
		}
		at = block.At
		sum += block.Out
	}
	if sum != len(text) || len(blocks) == 0 {
		t.Errorf("%d blocks tell %d bytes, want %d", len(blocks), sum, len(text))
	}
}

// wrongs are streams with an error in each place that may have one. Where a stream is tight, it ends where the error is met, or with the few bits of its byte: one that is met later would be another.
func wrongs() []wrong {
	return slices.Concat(shortOnes(), badHeads(), badCodes(), badSymbols(), longOnes())
}

func shortOnes() []wrong {
	return []wrong{
		{"no bytes", nil, plenty, api.ErrShort},
		{"no bytes, most 0", []byte{}, 0, api.ErrShort},
		{"no second block", begin().stored(0, []byte("ab")).bytes(), plenty, api.ErrShort},
		{"no second block's kind", begin().fixed(0).text("\x90\x90\x90\x90\x90").end().bits("0").bytes(), plenty, api.ErrShort},
		{"no numbers", []byte{1}, plenty, api.ErrShort},
		{"half a number", []byte{1, 0}, plenty, api.ErrShort},
		{"one number", []byte{1, 0, 0}, plenty, api.ErrShort},
		{"a number and a half", []byte{1, 0, 0, 255}, plenty, api.ErrShort},
		{"a number and a half that would not go with it", []byte{1, 0, 0, 0}, plenty, api.ErrShort},
		{"no stored bytes", []byte{1, 2, 0, 253, 255}, plenty, api.ErrShort},
		{"too few stored bytes", []byte{1, 2, 0, 253, 255, 97}, plenty, api.ErrShort},
		{"65534 of 65535", begin().stored(1, make([]byte, 65535)).bytes()[:65539], plenty, api.ErrShort},
		{"no symbol", []byte{3}, plenty, api.ErrShort},
		{"within a symbol", begin().fixed(1).text("a").bytes(), plenty, api.ErrShort},
		{"within a length's field", begin().fixed(1).text("\x90\x91a").symbols(281).field(7, 3).bytes(), plenty, api.ErrShort},
		{"no distance", begin().fixed(1).text("\x90\x91\x92\x93\x94\x95").symbols(264).bytes(), plenty, api.ErrShort},
		{"within a distance", begin().fixed(1).text("\x90a").symbols(264).bits("00000").bytes()[:3], plenty, api.ErrShort},
		{"within the field of a distance that is beyond anyway", begin().fixed(1).text("\x90").symbols(257).code(texts(same(5, 32)), 29).bytes(), plenty, api.ErrShort},
		{"within L", begin().fixed(0).end().head(1, 2).field(31, 3).bytes(), plenty, api.ErrShort},
		{"within D", begin().head(1, 2).field(29, 5).bytes(), plenty, api.ErrShort},
		{"within the number of lengths", begin().head(1, 2).field(29, 5).field(29, 5).field(7, 3).bytes(), plenty, api.ErrShort},
		{"within the lengths of the code of lengths", begin().head(1, 2).field(0, 5).field(0, 5).field(1, 4).field(0xfff, 12).bits("111").bytes()[:3], plenty, api.ErrShort},
		{"no lengths", begin().dynamicHead(1, 257, 1, 5, lengthsOf(19, 0, 1, 17, 1)).bytes(), plenty, api.ErrShort},
		{"within lengths", begin().dynamic(1, threes(258), []int{1, 1}).bytes()[:100], plenty, api.ErrShort},
		{"within the field of a repetition that is beyond anyway", begin().dynamicHead(1, 257, 1, 18, lengthsOf(19, 1, 1, 18, 1)).items(lengthsOf(19, 1, 1, 18, 1), zeroItems(257)).bits("1").bytes(), plenty, api.ErrShort},
		{"no symbol behind the lengths", begin().tight(1, threes(258), []int{1, 1}).bytes(), plenty, api.ErrShort},
	}
}

// zeroItems tells so many lengths of 0, from 149 to 276, by two repetitions.
func zeroItems(count int) []item {
	return []item{{18, 127}, {18, count - 138 - 11}}
}

func badHeads() []wrong {
	one := func(lengths ...int) []int { return lengthsOf(19, lengths...) }
	return []wrong{
		{"kind 3", []byte{6}, plenty, api.ErrBad},
		{"kind 3, behind another block", begin().fixed(0).end().head(0, 3).bytes(), plenty, api.ErrBad},
		{"numbers of 0 and 0", []byte{1, 0, 0, 0, 0}, plenty, api.ErrBad},
		{"numbers of 65535 and 65535", []byte{1, 255, 255, 255, 255}, plenty, api.ErrBad},
		{"the same numbers", []byte{1, 1, 0, 1, 0}, plenty, api.ErrBad},
		{"numbers that are 65536 together", []byte{1, 1, 0, 255, 255}, plenty, api.ErrBad},
		{"numbers ahead of most", []byte{1, 1, 0, 0, 0, 97}, 0, api.ErrBad},
		{"L 287, and no more", begin().head(1, 2).field(30, 5).bytes(), plenty, api.ErrBad},
		{"L 288, and no more", begin().head(1, 2).field(31, 5).bytes(), plenty, api.ErrBad},
		{"D 31, and no more", begin().head(1, 2).field(0, 5).field(30, 5).bytes(), plenty, api.ErrBad},
		{"D 32, and no more", begin().head(1, 2).field(29, 5).field(31, 5).bytes(), plenty, api.ErrBad},
		{"L 287, whole", begin().dynamic(1, lengthsOf(287, 256, 1), []int{0}).end().bytes(), plenty, api.ErrBad},
		{"L 288, whole", begin().dynamic(1, lengthsOf(288, 256, 1, 287, 1), []int{0}).end().bytes(), plenty, api.ErrBad},
		{"D 31, whole", begin().dynamic(1, lengthsOf(257, 256, 1), same(0, 31)).end().bytes(), plenty, api.ErrBad},
		{"D 32, whole", begin().dynamic(1, lengthsOf(257, 256, 1), same(5, 32)).end().bytes(), plenty, api.ErrBad},
		{"a code of lengths of nothing", begin().dynamicHead(1, 257, 1, 5, one()).bytes(), plenty, api.ErrBad},
		{"a code of lengths of one symbol of 1 bit", begin().dynamicHead(1, 257, 1, 5, one(18, 1)).bytes(), plenty, api.ErrBad},
		{"a code of lengths of one symbol of 7 bits", begin().dynamicHead(1, 257, 1, 5, one(8, 7)).bytes(), plenty, api.ErrBad},
		{"a gappy code of lengths", begin().dynamicHead(1, 257, 1, 5, one(0, 1, 17, 2)).bytes(), plenty, api.ErrBad},
		{"a code of lengths that is nearly whole", begin().dynamicHead(1, 257, 1, 19, one(0, 1, 1, 2, 2, 3, 3, 4, 4, 5, 5, 6, 6, 7)).bytes(), plenty, api.ErrBad},
		{"a code of lengths that is too full", begin().dynamicHead(1, 257, 1, 5, one(0, 1, 17, 1, 18, 1)).bytes(), plenty, api.ErrBad},
		{"a code of lengths that is a little too full", begin().dynamicHead(1, 257, 1, 5, one(0, 1, 17, 1, 8, 7)).bytes(), plenty, api.ErrBad},
		{"a 16 that stands first, and no more", begin().dynamicHead(1, 257, 1, 18, one(1, 1, 16, 1)).bits("1").bytes(), plenty, api.ErrBad},
		{"a 16 that stands first", begin().dynamicHead(1, 257, 1, 19, ofLengths()).items(ofLengths(), []item{{16, 0}, {1, 0}}).bytes(), plenty, api.ErrBad},
	}
}

func badCodes() []wrong {
	tight := func(literals, distances []int) []byte { return begin().tight(1, literals, distances).bytes() }
	whole := []int{1, 1}
	var l []wrong
	for _, x := range []struct {
		name      string
		literals  []int
		distances []int
	}{
		{"a literal code of nothing", same(0, 257), whole},
		{"a literal code of one symbol of 1 bit that is not 256", lengthsOf(257, 255, 1), whole},
		{"a literal code of 256 alone, of 2 bits", lengthsOf(257, 256, 2), whole},
		{"a literal code of 256 alone, of 15 bits", lengthsOf(257, 256, 15), whole},
		{"a gappy literal code", lengthsOf(257, 'a', 1, 256, 2), whole},
		{"a literal code that lacks one code of 15 bits", lengthsOf(257, 1, 1, 2, 2, 3, 3, 4, 4, 5, 5, 6, 6, 7, 7, 8, 8, 9, 9, 10, 10, 11, 11, 12, 12, 13, 13, 14, 14, 256, 15), whole},
		{"a literal code without 256", lengthsOf(257, 'a', 1, 'b', 1), whole},
		{"a literal code without 256, with more than it", lengthsOf(286, 'a', 1, 257, 1), whole},
		{"a literal code that is too full", lengthsOf(257, 'a', 1, 'b', 1, 256, 1), whole},
		{"a literal code that is a little too full", lengthsOf(257, 'a', 1, 'b', 1, 256, 15), whole},
		{"a distance code of one symbol of 2 bits", threes(258), []int{2}},
		{"a distance code of one symbol of 15 bits", threes(258), lengthsOf(30, 29, 15)},
		{"a gappy distance code", threes(258), []int{1, 2}},
		{"a gappy distance code of two equal ones", threes(258), []int{2, 2}},
		{"a distance code of 30 of 5 bits", threes(258), same(5, 30)},
		{"a distance code that is too full", threes(258), []int{1, 1, 1}},
		{"a distance code that is a little too full", threes(258), []int{1, 1, 15}},
		{"both codes", same(0, 257), []int{2}},
		{"a distance code that nobody would ask", lengthsOf(257, 256, 1), []int{2}},
	} {
		l = append(l, wrong{x.name, tight(x.literals, x.distances), plenty, api.ErrBad})
		l = append(l, wrong{x.name + ", most 0", tight(x.literals, x.distances), 0, api.ErrBad})
	}
	return l
}

func badSymbols() []wrong {
	fixed := texts(same(5, 32))
	nines := "\x90\x91\x92\x93\x94\x95\x96\x97"
	return []wrong{
		{"286, and no more", begin().fixed(1).text(nines[:5]).symbols(286).bytes(), plenty, api.ErrBad},
		{"287, and no more", begin().fixed(1).text(nines[:5]).symbols(287).bytes(), plenty, api.ErrBad},
		{"286 as a copy", begin().fixed(1).text("a").symbols(286).distance(1).end().bytes(), plenty, api.ErrBad},
		{"287 as a copy", begin().fixed(1).text("a").symbols(287).distance(1).end().bytes(), plenty, api.ErrBad},
		{"the distance 30, and no more", begin().fixed(1).text(nines[:1]).symbols(257).code(fixed, 30).bytes(), plenty, api.ErrBad},
		{"the distance 31, and no more", begin().fixed(1).text(nines[:1]).symbols(257).code(fixed, 31).bytes(), plenty, api.ErrBad},
		{"the distance 30 behind much", begin().stored(0, make([]byte, 65535)).fixed(1).symbols(257).code(fixed, 30).field(0, 20).bytes(), plenty, api.ErrBad},
		{"the distance 31 behind much", begin().stored(0, make([]byte, 65535)).fixed(1).symbols(257).code(fixed, 31).field(0, 20).bytes(), plenty, api.ErrBad},
		{"a copy of nothing told", begin().fixed(1).copy(3, 1).end().bytes(), plenty, api.ErrBad},
		{"a copy from one byte beyond", begin().fixed(1).text("ab").copy(3, 3).end().bytes(), plenty, api.ErrBad},
		{"a copy from one byte beyond, and no more", begin().fixed(1).text(nines[:1]).copy(3, 2).bytes(), plenty, api.ErrBad},
		{"a copy from 32768 back of 32767", begin().stored(0, make([]byte, 32767)).fixed(1).copy(3, 32768).end().bytes(), plenty, api.ErrBad},
		{"a copy from beyond, ahead of most", begin().fixed(1).text("a").copy(3, 2).end().bytes(), 1, api.ErrBad},
		{"a symbol without a code", begin().dynamic(1, lengthsOf(257, 256, 1), []int{0}).bits("1").bytes(), plenty, api.ErrBad},
		{"a distance without a code", begin().dynamic(1, threes(258), []int{1}).text("a").symbols(257).bits("1").bytes(), plenty, api.ErrBad},
		{"a distance where no symbol has a code, at the bytes' end", begin().tight(1, threes(258), []int{0}).text("aba").symbols(257).bytes(), plenty, api.ErrBad},
		{"a distance where no symbol has a code, and a length without its field", begin().tight(1, lengthsOf(282, 'a', 2, 'b', 2, 256, 2, 281, 2), []int{0}).text("aba").symbols(281).bytes(), plenty, api.ErrShort},
	}
}

func longOnes() []wrong {
	return []wrong{
		{"most -1", []byte{3, 0}, -1, api.ErrArg},
		{"most -1 of no bytes", nil, -1, api.ErrArg},
		{"most -1 of bad ones", []byte{7}, -1, api.ErrArg},
		{"the least most", []byte{3, 0}, math.MinInt, api.ErrArg},
		{"stored, most 0", []byte{1, 1, 0, 254, 255, 97}, 0, api.ErrLong},
		{"stored, most 0, no byte", []byte{1, 1, 0, 254, 255}, 0, api.ErrShort},
		{"stored, one byte and no more", []byte{1, 2, 0, 253, 255, 97}, 1, api.ErrShort},
		{"stored, one byte too many and no more", []byte{1, 3, 0, 252, 255, 97, 98}, 1, api.ErrLong},
		{"fixed, most 0", []byte{75, 4, 0}, 0, api.ErrLong},
		{"fixed, without its end", begin().fixed(1).text("ab").bytes(), 1, api.ErrLong},
		{"fixed, one told and then nothing", begin().fixed(1).text("a").bytes(), 1, api.ErrShort},
		{"fixed, ahead of a bad symbol", begin().fixed(1).text("ab").symbols(286).bytes(), 1, api.ErrLong},
		{"fixed, behind a bad symbol", begin().fixed(1).text("a").symbols(286).text("b").bytes(), 1, api.ErrBad},
		{"fixed, a copy's first byte", begin().fixed(1).text("a").copy(3, 1).end().bytes(), 1, api.ErrLong},
		{"fixed, a copy's last byte", begin().fixed(1).text("a").copy(258, 1).end().bytes(), 258, api.ErrLong},
		{"fixed, a copy, ahead of what is missing", begin().fixed(1).text("a").copy(6, 1).bytes(), 6, api.ErrLong},
		{"dynamic", begin().dynamic(1, threes(258), []int{1, 1}).text("ab").end().bytes(), 1, api.ErrLong},
		{"in the second block", begin().stored(0, []byte("ab")).stored(1, []byte("c")).bytes(), 2, api.ErrLong},
		{"in the first block, ahead of a bad second", begin().stored(0, []byte("ab")).head(1, 3).bytes(), 1, api.ErrLong},
		{"behind the first block, at a bad second", begin().stored(0, []byte("ab")).head(1, 3).bytes(), 2, api.ErrBad},
	}
}

func TestP4_1Wrong(t *testing.T) {
	for _, x := range wrongs() {
		wantError(t, x)
		if _, _, _, e := plainly(x.b, x.most); e != x.e {
			t.Errorf("%s: read plainly it is %v", x.name, e)
		}
	}
}

// TestP4_1BothNumbers: each bit of the second number alone, and of the first.
func TestP4_1BothNumbers(t *testing.T) {
	for bit := range 32 {
		b := []byte{1, 2, 0, 253, 255, 97, 98}
		b[1+bit/8] ^= 1 << (bit % 8)
		wantError(t, wrong{fmt.Sprint("bit ", bit), b, plenty, api.ErrBad})
	}
}

func TestP4_1Repetitions(t *testing.T) {
	// The lengths of a, 256 and four distances, with other ways of telling the zeroes between, and the last ones.
	code := ofLengths()
	block := func(l ...item) *writer {
		w := begin().dynamicHead(1, 257, 4, 19, code).items(code, l)
		w.literals, w.distances = texts(lengthsOf(257, 'a', 1, 256, 1)), texts(same(2, 4))
		return w
	}
	zeroes := func(ways ...item) []item {
		return slices.Concat(plainItems(same(0, 97)), []item{{1, 0}}, ways, []item{{1, 0}})
	}
	for _, x := range []struct {
		name string
		l    []item
		e    api.Errno
	}{
		{"18 of 138, 17 of 10, 17 of 10", zeroes(item{18, 127}, item{17, 7}, item{17, 7}), api.OK},
		{"18 of 11 and 138, 17 of 3 and 6", zeroes(item{18, 0}, item{18, 127}, item{17, 0}, item{17, 3}), api.OK},
		{"18 of 138, 17 of 9, 0, 16 of 6, 16 of 4", zeroes(item{18, 127}, item{17, 6}, item{0, 0}, item{16, 3}, item{16, 1}), api.OK},
		{"one zero too many", zeroes(item{18, 127}, item{18, 10}), api.ErrBad},
	} {
		distances := []item{{2, 0}, {16, 0}}
		b := block(slices.Concat(x.l, distances)...).text("aa").end().bytes()
		if x.e == api.OK {
			wantTold(t, told{x.name, b, "aa"})
		} else {
			wantError(t, wrong{x.name, b, plenty, x.e})
		}
	}
	ahead := zeroes(item{18, 127}, item{17, 7}, item{17, 7})
	for _, x := range []struct {
		name string
		l    []item
		e    api.Errno
	}{
		{"16 just up to L and D", []item{{2, 0}, {16, 0}}, api.OK},
		{"16 that goes beyond by one", []item{{2, 0}, {16, 1}}, api.ErrBad},
		{"16 that goes beyond by three", []item{{2, 0}, {16, 3}}, api.ErrBad},
		{"16 at the last one", []item{{2, 0}, {2, 0}, {2, 0}, {16, 0}}, api.ErrBad},
		{"16 over from L to D", []item{{16, 1}}, api.ErrBad}, // four distances of 1 bit are too full
		{"17 just up to L and D", []item{{17, 1}}, api.OK},
		{"17 that goes beyond by one", []item{{17, 2}}, api.ErrBad},
		{"17 behind one distance, just up to L and D", []item{{1, 0}, {17, 0}}, api.OK},
		{"17 behind one distance, beyond", []item{{1, 0}, {17, 1}}, api.ErrBad},
		{"18 beyond", []item{{18, 0}}, api.ErrBad},
		{"18 far beyond", []item{{18, 127}}, api.ErrBad},
	} {
		b := block(slices.Concat(ahead, x.l)...).text("aa").end().bytes()
		if x.e == api.OK {
			wantTold(t, told{x.name, b, "aa"})
		} else {
			wantError(t, wrong{x.name, b, plenty, x.e})
		}
	}
}

// TestP4_1RepetitionsOverBoth: one repetition tells the last literal lengths and the first distances'.
func TestP4_1RepetitionsOverBoth(t *testing.T) {
	code := ofLengths()
	ahead := slices.Concat([]item{{0, 0}, {1, 0}}, zeroItems(254)) // the lengths of 0 to 255: 1 has 1 bit
	w := begin().dynamicHead(1, 258, 4, 19, code).items(code, append(ahead, item{2, 0}, item{16, 2}))
	w.literals, w.distances = texts(lengthsOf(258, 1, 1, 256, 2, 257, 2)), texts(same(2, 4))
	wantTold(t, told{"by a 16", w.symbols(1).copy(3, 1).copy(3, 4).end().bytes(), "\x01\x01\x01\x01\x01\x01\x01"})
	w = begin().dynamicHead(1, 286, 30, 19, code).items(code, append(ahead, item{1, 0}, item{18, 48}))
	w.literals = texts(lengthsOf(286, 1, 1, 256, 1))
	wantTold(t, told{"by an 18", w.symbols(1, 1).end().bytes(), "\x01\x01"})
	w = begin().dynamicHead(1, 259, 3, 19, code).items(code, append(ahead, item{1, 0}, item{17, 1}, item{1, 0}))
	w.literals = texts(lengthsOf(259, 1, 1, 256, 1))
	wantTold(t, told{"by a 17", w.symbols(1, 1).end().bytes(), "\x01\x01"})
}

// TestP4_1FewBytes: all streams of one byte and of two, and what few ones more make of them.
func TestP4_1FewBytes(t *testing.T) {
	for x := range 1 << 16 {
		b := []byte{byte(x), byte(x >> 8)}
		if x < 256 {
			wantPlain(t, b[:1], 9)
		}
		wantPlain(t, b, x%3)
	}
}

func TestP4_1Drawn(t *testing.T) {
	r := rand.New(rand.NewSource(4))
	errors := map[api.Errno]int{}
	for range 400 {
		b, n := drawnStream(r)
		if e := wantPlain(t, b, n); e != api.OK {
			t.Fatalf("a stream that was written is read as %v", e)
		}
		errors[wantPlain(t, b, n-1)]++
		for range 20 {
			spoilt := slices.Clone(b)
			for range 1 + r.Intn(3) {
				spoilt[r.Intn(len(spoilt))] ^= 1 << r.Intn(8)
			}
			errors[wantPlain(t, spoilt[:1+r.Intn(len(spoilt))], n)]++
			errors[wantPlain(t, spoilt, n+r.Intn(100))]++
		}
	}
	for _, e := range []api.Errno{api.OK, api.ErrLong, api.ErrShort, api.ErrBad} {
		if errors[e] < 100 {
			t.Errorf("too few streams with %v: %v", e, errors)
		}
	}
}

// TestP4_1AsTheLibrary: what is read is read so by the library too.
func TestP4_1AsTheLibrary(t *testing.T) {
	r := rand.New(rand.NewSource(5))
	for range 2000 {
		b, n := drawnStream(r)
		b[r.Intn(len(b))] ^= byte(r.Intn(2)) << r.Intn(8)
		out, size, e := inflate.Inflate(b, n+1000)
		if e != api.OK {
			continue
		}
		left := bytes.NewReader(b)
		want := new(bytes.Buffer)
		_, err := want.ReadFrom(flate.NewReader(left))
		if err != nil || !bytes.Equal(out, want.Bytes()) || size != len(b)-left.Len() {
			t.Errorf("Inflate of %v: %v, %d; the library: %v, %v, %d left", b, out, size, want.Bytes(), err, left.Len())
		}
	}
}

func TestP4_2Blocks(t *testing.T) {
	w := begin().fixed(0).text("one ").end()
	ends := []int{w.n}
	w.stored(0, []byte("two "))
	ends = append(ends, w.n)
	w.dynamic(0, threes(258), []int{1, 1}).text("ab").copy(3, 1).end()
	ends = append(ends, w.n)
	w.fixed(0).end()
	ends = append(ends, w.n)
	w.stored(0, nil)
	ends = append(ends, w.n)
	w.fixed(1).copy(4, 13).end()
	blocks, e := inflate.Blocks(w.bytes(), 17)
	want := []api.Block{
		{Kind: 1, Last: false, At: 0, Out: 4},
		{Kind: 0, Last: false, At: ends[0], Out: 4},
		{Kind: 2, Last: false, At: ends[1], Out: 5},
		{Kind: 1, Last: false, At: ends[2], Out: 0},
		{Kind: 0, Last: false, At: ends[3], Out: 0},
		{Kind: 1, Last: true, At: ends[4], Out: 4},
	}
	if !slices.Equal(blocks, want) || e != api.OK {
		t.Errorf("Blocks: %v, %v; want %v", blocks, e, want)
	}
	wantError(t, wrong{"one too many", w.bytes(), 16, api.ErrLong})
}

func TestP4_2OneBlock(t *testing.T) {
	for _, x := range []struct {
		b    []byte
		want api.Block
	}{
		{[]byte{3, 0}, api.Block{Kind: 1, Last: true}},
		{[]byte{75, 132, 0, 0}, api.Block{Kind: 1, Last: true, Out: 7}},
		{[]byte{1, 2, 0, 253, 255, 97, 98}, api.Block{Kind: 0, Last: true, Out: 2}},
		{begin().stored(1, make([]byte, 65535)).bytes(), api.Block{Kind: 0, Last: true, Out: 65535}},
		{begin().dynamic(1, threes(258), []int{1, 1}).text("ab").copy(3, 2).end().bytes(), api.Block{Kind: 2, Last: true, Out: 5}},
	} {
		blocks, e := inflate.Blocks(x.b, x.want.Out)
		if len(blocks) != 1 || blocks[0] != x.want || e != api.OK {
			t.Errorf("Blocks of %d bytes: %v, %v; want %v", len(x.b), blocks, e, x.want)
		}
	}
}

func TestP4_2BlocksLieBehindOneAnother(t *testing.T) {
	for _, x := range rights() {
		blocks, e := inflate.Blocks(x.b, len(x.out))
		wantChain(t, blocks, x.b, []byte(x.out))
		if e != api.OK {
			t.Errorf("%s: %v", x.name, e)
		}
	}
	blocks, _ := inflate.Blocks(manyBlocks(300), 0)
	for i, block := range blocks {
		if block != (api.Block{Kind: 1, Last: i == 299, At: 10 * i}) {
			t.Errorf("block %d of 10 bits each: %v", i, block)
		}
	}
	if len(blocks) != 300 {
		t.Errorf("%d blocks, want 300", len(blocks))
	}
}

func TestP4_2Fixed(t *testing.T) {
	literals, distances := inflate.Fixed()
	if !slices.Equal(literals, slices.Concat(same(8, 144), same(9, 112), same(7, 24), same(8, 8))) {
		t.Errorf("literals: %v", literals)
	}
	if !slices.Equal(distances, same(5, 32)) {
		t.Errorf("distances: %v", distances)
	}
}

func TestP4_3WhateverStandsBehind(t *testing.T) {
	for _, x := range rights() {
		for _, behind := range [][]byte{{0}, {255}, {1, 2, 3}, x.b} {
			wantRead(t, x.name+" and more", slices.Concat(x.b, behind), len(x.out), x.out, len(x.b))
		}
	}
}

// TestP4_3Fewer: of fewer bytes a stream is too short, and a wrong one is too short or what it was.
func TestP4_3Fewer(t *testing.T) {
	for _, x := range rights() {
		for _, size := range cuts(len(x.b)) {
			wantError(t, wrong{fmt.Sprint(x.name, ", ", size, " bytes of it"), x.b[:size:size], len(x.out), api.ErrShort})
		}
	}
	for _, x := range wrongs() {
		before := api.ErrShort
		for _, size := range cuts(len(x.b)) {
			_, _, e := inflate.Inflate(x.b[:size:size], x.most)
			if e != api.ErrShort && e != x.e || before != api.ErrShort && e != before {
				t.Errorf("%s, %d bytes of it: %v", x.name, size, e)
			}
			before = e
		}
	}
}

// cuts are the sizes below n that are asked: all, or of a great stream some.
func cuts(n int) []int {
	var l []int
	for size := 0; size < n; size++ {
		l = append(l, size)
		if n > 1000 && size > 20 && size < n-30 {
			size += n / 20
		}
	}
	return l
}

func TestP4_3GreaterMost(t *testing.T) {
	for _, x := range rights() {
		for _, most := range []int{len(x.out), len(x.out) + 1, 2*len(x.out) + 100, 1 << 30, math.MaxInt} {
			wantRead(t, fmt.Sprint(x.name, ", most ", most), x.b, most, x.out, len(x.b))
		}
		for _, most := range []int{0, 1, len(x.out) / 2, len(x.out) - 1} {
			if most >= 0 && most < len(x.out) {
				wantError(t, wrong{fmt.Sprint(x.name, ", most ", most), x.b, most, api.ErrLong})
			}
		}
		wantError(t, wrong{x.name + ", most -1", x.b, -1, api.ErrArg})
	}
	for _, x := range wrongs() {
		if x.e == api.ErrBad || x.e == api.ErrShort {
			for _, most := range []int{x.most + 1, x.most + 1000, math.MaxInt} {
				wantError(t, wrong{fmt.Sprint(x.name, ", most ", most), x.b, most, x.e})
			}
		}
	}
}

func TestT6InflateCallsEnd(t *testing.T) {
	r := rand.New(rand.NewSource(6))
	for range 20000 {
		b := make([]byte, r.Intn(60))
		r.Read(b)
		if len(b) > 0 {
			b[0] = b[0]&^6 | byte(r.Intn(3))<<1
		}
		for _, most := range []int{math.MinInt, -1, 0, 1, 1 << 10, math.MaxInt} {
			inflate.Inflate(b, most)
			inflate.Blocks(b, most)
		}
	}
	for _, c := range []byte{0, 1, 2, 3, 4, 5, 6, 7, 252, 253, 255} {
		b := bytes.Repeat([]byte{c}, 3000)
		inflate.Inflate(b, math.MaxInt)
		inflate.Blocks(b, math.MaxInt)
	}
}

func TestRule4NothingHandedInIsChanged(t *testing.T) {
	for _, x := range rights() {
		b := append(slices.Clone(x.b), 1, 2, 3)[:len(x.b)]
		want := slices.Clone(b[:len(b)+3])
		out, _, _ := inflate.Inflate(b, len(x.out))
		inflate.Blocks(b, len(x.out))
		clear(out[:cap(out)])
		if !bytes.Equal(b[:len(b)+3], want) {
			t.Errorf("%s: what was handed in was changed", x.name)
		}
	}
}

func TestRule4AnswersAreNew(t *testing.T) {
	for _, x := range rights() {
		b := slices.Clone(x.b)
		out, _, _ := inflate.Inflate(b, len(x.out))
		clear(b)
		if string(out) != x.out {
			t.Errorf("%s: the answer hangs on what was handed in", x.name)
		}
		first, _ := inflate.Blocks(x.b, len(x.out))
		want := slices.Clone(first)
		second, _ := inflate.Blocks(x.b, len(x.out))
		clear(second[:cap(second)])
		if !slices.Equal(first, want) {
			t.Errorf("%s: two answers share blocks", x.name)
		}
	}
	literals, distances := inflate.Fixed()
	clear(literals[:cap(literals)])
	if !slices.Equal(distances, same(5, 32)) {
		t.Errorf("the lists of one answer share memory")
	}
	clear(distances[:cap(distances)])
	TestP4_2Fixed(t)
	wantTold(t, told{"a", []byte{75, 4, 0}, "a"})
}

// TestRule4SpareRoomIsNotRead: the rest of the stream stands in the spare room.
func TestRule4SpareRoomIsNotRead(t *testing.T) {
	for _, x := range rights() {
		wantError(t, wrong{x.name + " but for its last byte", x.b[:len(x.b)-1], plenty, api.ErrShort})
	}
}

func TestRule6NilIsEmpty(t *testing.T) {
	for _, most := range []int{0, 1, plenty} {
		wantError(t, wrong{"nil", nil, most, api.ErrShort})
		wantError(t, wrong{"empty", []byte{}, most, api.ErrShort})
		wantError(t, wrong{"empty, with spare room", []byte{3, 0}[:0], most, api.ErrShort})
	}
}
