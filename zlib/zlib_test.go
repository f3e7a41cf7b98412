package zlib_test

import (
	"bytes"
	library "compress/zlib"
	"fmt"
	"io"
	"math"
	"math/rand"
	"slices"
	"strings"
	"testing"

	"sluicegate/api"
	"sluicegate/deflate"
	"sluicegate/inflate"
	"sluicegate/zlib"
)

// wiki tells Wikipedia, whose sum has four different bytes: 17 230 3 152.
var wiki = []byte{120, 1, 11, 207, 204, 206, 44, 72, 77, 201, 76, 4, 0, 17, 230, 3, 152}

// noise is n bytes by chance, of so many kinds.
func noise(n, kinds int) []byte {
	r := rand.New(rand.NewSource(int64(n*1000 + kinds)))
	b := make([]byte, n)
	for i := range b {
		b[i] = byte(r.Intn(kinds))
	}
	return b
}

// texts are told as fixed streams and as stored ones, of one block and of several, that end at all of a byte's bits.
func texts() [][]byte {
	l := [][]byte{
		nil, {}, {0}, {1}, {255}, {0, 0, 0, 0}, []byte("a"), []byte("ab"), []byte("Wikipedia"),
		[]byte("abcabcabcd"), bytes.Repeat([]byte("s"), 300), make([]byte, 65521), bytes.Repeat([]byte{255}, 6000),
		[]byte(strings.Repeat("select a from b where c = 'd'; ", 50)),
		noise(40, 256), noise(300, 20), noise(1000, 256), noise(65535, 256), noise(65536, 256), noise(70000, 2),
	}
	for n := range 20 {
		l = append(l, bytes.Repeat([]byte{200, 100}, n)[:n])
	}
	return l
}

// short are those whose every bit is turned.
func short() [][]byte {
	return slices.DeleteFunc(texts(), func(b []byte) bool { return len(b) > 2000 })
}

// brief shortens what is told of bytes in a failed test.
func brief(b []byte) string {
	if len(b) > 40 {
		return fmt.Sprintf("%v .. (%d bytes)", b[:40], len(b))
	}
	return fmt.Sprint(b)
}

func join(parts ...[]byte) []byte {
	return slices.Concat(parts...)
}

// turned has one bit turned.
func turned(b []byte, bit int) []byte {
	l := slices.Clone(b)
	l[bit/8] ^= 1 << (bit % 8)
	return l
}

// wrapped puts a fine head ahead of a stream, and the sum of what it should tell behind it.
func wrapped(stream []byte, told string) []byte {
	return join([]byte{120, 156}, stream, plainSum([]byte(told)))
}

func wantTold(t *testing.T, name string, b []byte, most int, want []byte) {
	t.Helper()
	if out, e := zlib.Unpack(b, most); !bytes.Equal(out, want) || e != api.OK {
		t.Errorf("%s: Unpack of %s, most %d: %s, %v, want %s", name, brief(b), most, brief(out), e, brief(want))
	}
}

func wantError(t *testing.T, name string, b []byte, most int, want api.Errno) {
	t.Helper()
	if out, e := zlib.Unpack(b, most); len(out) != 0 || e != want {
		t.Errorf("%s: Unpack of %s, most %d: %s, %v, want %v", name, brief(b), most, brief(out), e, want)
	}
}

// wantPlain holds Unpack against the plain words, and answers their error.
func wantPlain(t *testing.T, name string, b []byte, most int) api.Errno {
	t.Helper()
	want, e := plainUnpack(b, most)
	if e != api.OK {
		wantError(t, name, b, most, e)
	} else {
		wantTold(t, name, b, most, want)
	}
	return e
}

func wantHead(t *testing.T, b []byte, want api.Errno) {
	t.Helper()
	if e := zlib.Head(b); e != want {
		t.Errorf("Head of %s: %v, want %v", brief(b), e, want)
	}
}

func TestExamples(t *testing.T) {
	a := []byte{120, 1, 75, 4, 0, 0, 98, 0, 98}
	if b := zlib.Pack([]byte("a")); !bytes.Equal(b, a) {
		t.Errorf("Pack of a: %v", b)
	}
	if b := zlib.Pack(nil); !bytes.Equal(b, []byte{120, 1, 3, 0, 0, 0, 0, 1}) {
		t.Errorf("Pack of nothing: %v", b)
	}
	wantTold(t, "most 1", a, 1, []byte("a"))
	wantError(t, "most 0", a, 0, api.ErrLong)
	wantError(t, "without its last byte", a[:8], 1, api.ErrShort)
	wantError(t, "with one more", join(a, []byte{0}), 1, api.ErrBad)
	wantError(t, "another sum", []byte{120, 1, 75, 4, 0, 0, 98, 0, 99}, 1, api.ErrSum)
	wantError(t, "120 2", []byte{120, 2}, 1, api.ErrBad)
	wantHead(t, []byte{120, 156}, api.OK)
	wantHead(t, []byte{120}, api.ErrShort)
	wantHead(t, []byte{8, 29}, api.OK)
}

func TestP6_1Pack(t *testing.T) {
	if b := zlib.Pack([]byte{}); !bytes.Equal(b, []byte{120, 1, 3, 0, 0, 0, 0, 1}) {
		t.Errorf("Pack of an empty list: %v", b)
	}
	if b := zlib.Pack([]byte("Wikipedia")); !bytes.Equal(b, wiki) {
		t.Errorf("Pack of Wikipedia: %v", b)
	}
	for _, text := range texts() {
		b := zlib.Pack(text)
		if want := plainPack(text); !bytes.Equal(b, want) {
			t.Errorf("Pack of %s: %s, want %s", brief(text), brief(b), brief(want))
		}
		wantHead(t, b, api.OK)
		wantLibrary(t, b, text)
	}
}

// wantLibrary asks the library to read a wrapped stream, to its last byte.
func wantLibrary(t *testing.T, b, want []byte) {
	t.Helper()
	rest := bytes.NewReader(b)
	reader, err := library.NewReader(rest)
	if err != nil {
		t.Errorf("the library, of %s: %v", brief(b), err)
		return
	}
	out, err := io.ReadAll(reader)
	if !bytes.Equal(out, want) || err != nil || rest.Len() != 0 {
		t.Errorf("the library, of %s: %s, %v, want %s; %d bytes are left", brief(b), brief(out), err, brief(want), rest.Len())
	}
}

// TestP6_1Heads has heads that fail at one thing alone.
func TestP6_1Heads(t *testing.T) {
	wantHead(t, nil, api.ErrShort)
	wantHead(t, []byte{}, api.ErrShort)
	for _, x := range []struct {
		first, second byte
		want          api.Errno
		why           string
	}{
		{120, 1, api.OK, "that of Pack"},
		{120, 94, api.OK, ""},
		{120, 156, api.OK, ""},
		{120, 218, api.OK, "the two highest bits are set"},
		{8, 29, api.OK, "the least window"},
		{104, 5, api.OK, "the window below the greatest"},
		{136, 28, api.ErrBad, "a window of 8"},
		{248, 7, api.ErrBad, "a window of 15"},
		{119, 9, api.ErrBad, "the lowest bits are 7"},
		{121, 24, api.ErrBad, "the lowest bits are 9"},
		{112, 3, api.ErrBad, "the lowest bits are 0"},
		{127, 18, api.ErrBad, "the lowest bits are 15"},
		{120, 32, api.ErrBad, "bit 5 is set"},
		{120, 187, api.ErrBad, "bit 5 is set"},
		{120, 249, api.ErrBad, "bit 5 is set"},
		{120, 0, api.ErrBad, "one less than can be divided"},
		{120, 2, api.ErrBad, "one more"},
		{120, 155, api.ErrBad, "one less"},
		{120, 157, api.ErrBad, "one more"},
		{1, 120, api.ErrBad, "the wrong way round"},
		{0, 0, api.ErrBad, "noughts"},
		{255, 255, api.ErrBad, "all bits"},
	} {
		if e := zlib.Head([]byte{x.first, x.second}); e != x.want {
			t.Errorf("Head of %d %d: %v, want %v; %s", x.first, x.second, e, x.want, x.why)
		}
	}
}

// TestP6_1AllHeads goes over all of them, alone and with bytes behind, by Head and by Unpack.
func TestP6_1AllHeads(t *testing.T) {
	fine := 0
	for first := range 256 {
		wantHead(t, []byte{byte(first)}, api.ErrShort)
		wantError(t, "one byte", []byte{byte(first)}, 1, api.ErrShort)
		for second := range 256 {
			head := []byte{byte(first), byte(second)}
			want := plainHead(head)
			wantHead(t, head, want)
			wantHead(t, join(head, []byte("behind")), want)
			b := join(head, wiki[2:])
			if want != api.OK {
				wantError(t, "a wrong head", b, 9, want)
				continue
			}
			fine++
			wantTold(t, "a fine head", b, 9, []byte("Wikipedia"))
			wantError(t, "a fine head, and no more", head, 9, api.ErrShort)
		}
	}
	if fine != 32 {
		t.Errorf("%d heads are fine", fine)
	}
}

func TestP6_2Most(t *testing.T) {
	for _, text := range texts() {
		b := plainPack(text)
		n := len(text)
		for _, most := range []int{n, n + 1, n + 2, 2*n + 1, math.MaxInt32, math.MaxInt - 1, math.MaxInt} {
			wantTold(t, "room enough", b, most, text)
		}
		for _, most := range []int{-1, -2, -n - 1, math.MinInt32, math.MinInt} {
			wantError(t, "below 0", b, most, api.ErrArg)
		}
		if n > 0 {
			wantError(t, "none", b, 0, api.ErrLong)
			wantError(t, "half of it", b, n/2, api.ErrLong)
			wantError(t, "one less", b, n-1, api.ErrLong)
		}
	}
}

// TestP6_2FirstErrors has two errors and more at once: the one that is named first is answered.
func TestP6_2FirstErrors(t *testing.T) {
	wrong := []byte{17, 230, 3, 153}
	stream := wiki[:len(wiki)-4]
	bad := join(stream[:2], []byte{7}) // a last block of the kind 3
	for _, x := range []struct {
		name string
		b    []byte
		most int
		want api.Errno
	}{
		{"most, no head", nil, -1, api.ErrArg},
		{"most, a short head", []byte{120}, -1, api.ErrArg},
		{"most, a wrong head", []byte{120, 2}, -1, api.ErrArg},
		{"most, a bad stream", bad, -1, api.ErrArg},
		{"most, no sum", stream, -1, api.ErrArg},
		{"most, another sum", join(stream, wrong), -1, api.ErrArg},
		{"most, too much", join(wiki, wrong), -1, api.ErrArg},
		{"nil", nil, 9, api.ErrShort},
		{"nothing", []byte{}, 9, api.ErrShort},
		{"a short head that would be wrong", []byte{121}, 9, api.ErrShort},
		{"a short head, most 0", []byte{120}, 0, api.ErrShort},
		{"a wrong head, no stream", []byte{120, 0}, 9, api.ErrBad},
		{"a wrong head, a short stream", join([]byte{120, 0}, stream[2:5]), 9, api.ErrBad},
		{"a wrong head, a long stream", join([]byte{120, 0}, wiki[2:]), 3, api.ErrBad},
		{"a wrong head, no sum", join([]byte{120, 0}, stream[2:]), 9, api.ErrBad},
		{"a wrong head, another sum", join([]byte{120, 0}, stream[2:], wrong), 9, api.ErrBad},
		{"no stream", []byte{120, 1}, 9, api.ErrShort},
		{"no stream, most 0", []byte{120, 1}, 0, api.ErrShort},
		{"a bad stream, no sum", bad, 9, api.ErrBad},
		{"a bad stream, another sum", join(bad, wrong), 9, api.ErrBad},
		{"a long stream, no sum", stream, 8, api.ErrLong},
		{"a long stream, a short sum", wiki[:len(wiki)-1], 8, api.ErrLong},
		{"a long stream, another sum", join(stream, wrong), 8, api.ErrLong},
		{"a long stream, more behind", join(wiki, []byte{0}), 8, api.ErrLong},
		{"a long stream that would end within its bytes", stream[:len(stream)-2], 3, api.ErrLong},
		{"a short stream, most too little for the rest", stream[:5], 8, api.ErrShort},
		{"a short sum that is another one", join(stream, wrong[1:]), 9, api.ErrShort},
		{"another sum, more behind", join(stream, wrong, []byte{0}), 9, api.ErrSum},
		{"another sum, the right one behind it", join(stream, wrong, wiki[len(wiki)-4:]), 9, api.ErrSum},
		{"the right sum, another one behind it", join(wiki, wrong), 9, api.ErrBad},
	} {
		wantError(t, x.name, x.b, x.most, x.want)
	}
}

// TestP6_2EachEnd cuts wrapped streams at each byte: within the head, the stream and the sum.
func TestP6_2EachEnd(t *testing.T) {
	for _, text := range short() {
		b := plainPack(text)
		for n := range b {
			wantError(t, "cut", b[:n:n], len(text), api.ErrShort)
		}
		wantTold(t, "whole", b, len(text), text)
	}
	for n := range 4 {
		end := len(wiki) - 4 + n
		wantError(t, fmt.Sprint(n, " bytes behind the stream"), wiki[:end:end], 9, api.ErrShort)
		wantError(t, fmt.Sprint(n, " noughts behind the stream"), join(wiki[:len(wiki)-4], make([]byte, n)), 9, api.ErrShort)
	}
}

// TestP6_2OtherSums has each of the four bytes be each other byte.
func TestP6_2OtherSums(t *testing.T) {
	for _, text := range []string{"", "a", "Wikipedia"} {
		b := plainPack([]byte(text))
		for place := len(b) - 4; place < len(b); place++ {
			for other := 1; other < 256; other++ {
				wrong := slices.Clone(b)
				wrong[place] ^= byte(other)
				wantError(t, "another sum", wrong, 9, api.ErrSum)
				wantError(t, "another sum, a byte more", join(wrong, []byte{0}), 9, api.ErrSum)
			}
		}
	}
	stream, sum := wiki[:len(wiki)-4], wiki[len(wiki)-4:]
	for _, order := range [][]int{{3, 2, 1, 0}, {2, 3, 0, 1}, {1, 0, 3, 2}, {1, 2, 3, 0}, {3, 0, 1, 2}} {
		var wrong []byte
		for _, place := range order {
			wrong = append(wrong, sum[place])
		}
		wantError(t, fmt.Sprint("in the order ", order), join(stream, wrong), 9, api.ErrSum)
	}
	// The sum is that of what is told: not of the stream, and not of nothing.
	wantError(t, "the stream's own", join(stream, plainSum(stream[2:])), 9, api.ErrSum)
	wantError(t, "that of head and stream", join(stream, plainSum(stream)), 9, api.ErrSum)
	wantError(t, "that of nothing", join(stream, plainSum(nil)), 9, api.ErrSum)
	wantError(t, "that of a byte less", join(stream, plainSum([]byte("Wikipedi"))), 9, api.ErrSum)
}

func TestP6_2More(t *testing.T) {
	for _, text := range short() {
		b := plainPack(text)
		for more := range 256 {
			wantError(t, "a byte more", join(b, []byte{byte(more)}), len(text), api.ErrBad)
		}
		wantError(t, "the sum again", join(b, b[len(b)-4:]), len(text), api.ErrBad)
		wantError(t, "all again", join(b, b), 2*len(text), api.ErrBad)
		wantError(t, "much more", join(b, make([]byte, 1000)), len(text), api.ErrBad)
	}
}

// TestP6_2Streams has streams that Pack does not make.
func TestP6_2Streams(t *testing.T) {
	abStored := []byte{1, 2, 0, 253, 255, 97, 98}
	for _, x := range []struct {
		name string
		b    []byte
		most int
		want api.Errno
	}{
		{"stored", wrapped(abStored, "ab"), 2, api.OK},
		{"stored, most 1", wrapped(abStored, "ab"), 1, api.ErrLong},
		{"bits behind the head of a stored block", wrapped(join([]byte{249}, abStored[1:]), "ab"), 2, api.OK},
		{"two blocks", wrapped(join([]byte{0}, abStored[1:], abStored), "abab"), 4, api.OK},
		{"nothing, stored", wrapped([]byte{1, 0, 0, 255, 255}, ""), 0, api.OK},
		{"bits behind the end", wrapped([]byte{75, 4, 252}, "a"), 1, api.OK},
		{"bits behind the end of nothing", wrapped([]byte{3, 252}, ""), 0, api.OK},
		{"a byte behind the stream", wrapped(join(abStored, []byte{0}), "ab"), 2, api.ErrSum},
		{"no last block", wrapped(join([]byte{0}, abStored[1:]), "ab"), 2, api.ErrShort},
		{"the kind 3", wrapped([]byte{7, 0}, ""), 2, api.ErrBad},
		{"lengths that are not turned", wrapped([]byte{1, 2, 0, 253, 254, 97, 98}, "ab"), 2, api.ErrBad},
		{"a copy beyond the first byte", wrapped([]byte{3, 2, 0}, ""), 9, api.ErrBad},
	} {
		if e := wantPlain(t, x.name, x.b, x.most); e != x.want {
			t.Errorf("%s: %v was to be asked for, not %v", x.name, x.want, e)
		}
	}
}

// packedBy is what the library packs at a level, with the blocks cut in between.
func packedBy(t *testing.T, level int, text, known []byte) []byte {
	t.Helper()
	var b bytes.Buffer
	w, err := library.NewWriterLevelDict(&b, level, known)
	if err != nil {
		t.Fatal(err)
	}
	half := len(text) / 2
	w.Write(text[:half])
	if level%2 == 0 {
		w.Flush()
	}
	w.Write(text[half:])
	w.Close()
	return b.Bytes()
}

func TestP6_2OtherWriters(t *testing.T) {
	kinds := [3]int{}
	for _, text := range texts() {
		for level := library.HuffmanOnly; level <= library.BestCompression; level++ {
			b := packedBy(t, level, text, nil)
			name := fmt.Sprint("the library at level ", level)
			wantTold(t, name, b, len(text), text)
			wantError(t, name+", cut", b[:len(b)-1], len(text), api.ErrShort)
			wantError(t, name+", a byte more", join(b, []byte{1}), len(text), api.ErrBad)
			wantError(t, name+", another sum", turned(b, len(b)*8-1), len(text), api.ErrSum)
			if len(text) > 0 {
				wantError(t, name+", one less", b, len(text)-1, api.ErrLong)
			}
			blocks, _ := inflate.Blocks(b[2:], len(text))
			for _, block := range blocks {
				kinds[block.Kind]++
			}
		}
	}
	if kinds[0] == 0 || kinds[1] == 0 || kinds[2] == 0 {
		t.Errorf("blocks of the three kinds: %v", kinds)
	}
	known := []byte("select from where")
	b := packedBy(t, 6, []byte("select a from b"), known)
	wantHead(t, b, api.ErrBad)
	wantError(t, "bytes told elsewhere", b, 100, api.ErrBad)
}

// spoiled is b with a few bytes set, cut out, put in, or cut off.
func spoiled(r *rand.Rand, b []byte) []byte {
	for range r.Intn(3) {
		at := r.Intn(len(b) + 1)
		switch r.Intn(5) {
		case 0:
			b = slices.Insert(slices.Clone(b), at, byte(r.Intn(256)))
		case 1:
			b = slices.Delete(slices.Clone(b), at, min(at+1, len(b)))
		case 2:
			b = b[:at]
		default:
			if len(b) > 0 {
				b = turned(b, r.Intn(len(b)*8))
			}
		}
	}
	return b
}

func TestP6_2Drawn(t *testing.T) {
	r := rand.New(rand.NewSource(62))
	seen := map[api.Errno]int{}
	for range 30000 {
		text := noise(r.Intn(30), 1+r.Intn(256))
		b := spoiled(r, plainPack(text))
		most := len(text) - 2 + r.Intn(12)
		seen[wantPlain(t, fmt.Sprintf("%q spoiled", text), b, most)]++
	}
	for range 30000 {
		b := join([]byte{120, 1}, noise(r.Intn(20), 256))
		seen[wantPlain(t, "drawn bytes behind a head", b, r.Intn(300))]++
		b = noise(r.Intn(6), 256)
		seen[wantPlain(t, "drawn bytes", b, r.Intn(5)-1)]++
	}
	for _, e := range []api.Errno{api.OK, api.ErrArg, api.ErrLong, api.ErrShort, api.ErrBad, api.ErrSum} {
		if seen[e] < 500 {
			t.Errorf("%v was drawn %d times alone", e, seen[e])
		}
	}
}

func TestP6_3ThereAndBack(t *testing.T) {
	r := rand.New(rand.NewSource(63))
	l := texts()
	for range 2000 {
		l = append(l, noise(r.Intn(200), 1+r.Intn(256)))
	}
	for _, text := range l {
		b := zlib.Pack(text)
		for _, more := range []int{0, 1, 2, 100} {
			wantTold(t, "there and back", b, len(text)+more, text)
		}
		for _, less := range []int{1, 2, len(text)} {
			if 0 < less && less <= len(text) {
				wantError(t, "there and back", b, len(text)-less, api.ErrLong)
			}
		}
	}
}

// TestP6_3ABitTurned turns each bit, in streams whose copies can't be turned into others that have the same sum.
func TestP6_3ABitTurned(t *testing.T) {
	for _, text := range short() {
		b := zlib.Pack(text)
		for bit := range len(b) * 8 {
			wantNoOther(t, text, turned(b, bit), bit)
			switch {
			case bit < 2*8:
				wantError(t, "a bit of the head", turned(b, bit), len(text), api.ErrBad)
			case bit >= (len(b)-4)*8:
				wantError(t, "a bit of the sum", turned(b, bit), len(text), api.ErrSum)
			}
		}
	}
	// Of the two bytes of the stream of nothing the last six bits are read by nobody.
	b := zlib.Pack(nil)
	for bit := 26; bit < 32; bit++ {
		wantTold(t, "a bit behind the stream", turned(b, bit), 0, nil)
	}
}

// wantNoOther asks for an error or for the bytes, with room for just these and for far more.
func wantNoOther(t *testing.T, text, b []byte, bit int) {
	t.Helper()
	for _, most := range []int{len(text), len(text) + 1000} {
		out, e := zlib.Unpack(b, most)
		if e == api.OK && !bytes.Equal(out, text) || e != api.OK && len(out) != 0 {
			t.Errorf("the bit %d of Pack of %s turned, most %d: %s, %v", bit, brief(text), most, brief(out), e)
		}
	}
}

// TestP6_2TheSameSum has other bytes with the same sum: a copy's distance is 21 where it was 17, told by one bit. The stream's sum is right, so that what it tells is answered.
func TestP6_2TheSameSum(t *testing.T) {
	ahead := "abbabaab0123456789,;:"
	b := zlib.Pack([]byte(ahead + "baab"))
	wantTold(t, "from 17 back", b, 25, []byte(ahead+"baab"))
	wantTold(t, "from 21 back", turned(b, 201), 25, []byte(ahead+"abba"))
	// In a text of few letters there are such bits by chance.
	b = zlib.Pack(noise(300, 4))
	for bit := range len(b) * 8 {
		wantPlain(t, "a bit turned", turned(b, bit), 300)
	}
}

// TestWhatIsHandedInStays asks too that nothing behind a list's end is read or written.
func TestWhatIsHandedInStays(t *testing.T) {
	whole := []byte("abcabcabcabcabcabcabc")
	kept := slices.Clone(whole)
	if b := zlib.Pack(whole[:9]); !bytes.Equal(b, plainPack([]byte("abcabcabc"))) {
		t.Errorf("Pack of a list with spare room: %v", b)
	}
	if !bytes.Equal(whole, kept) {
		t.Errorf("the bytes are %q now", whole)
	}
	packed := slices.Clone(wiki)
	for n := range len(packed) {
		wantError(t, "a list with spare room", packed[:n], 9, api.ErrShort)
	}
	wantHead(t, packed[:1], api.ErrShort)
	wantHead(t, packed[:2], api.OK)
	wantTold(t, "a list with spare room", append(packed, 1, 2, 3)[:len(packed)], 9, []byte("Wikipedia"))
	if !bytes.Equal(packed, wiki) {
		t.Errorf("the bytes are %v now", packed)
	}
}

// TestAnswersAreNew spoils what was handed in and what was answered, with its spare room, and asks again.
func TestAnswersAreNew(t *testing.T) {
	for _, text := range texts() {
		given := slices.Clone(text)
		b := zlib.Pack(given)
		clear(given[:cap(given)])
		if !bytes.Equal(b, plainPack(text)) {
			t.Errorf("Pack of %s hangs on what was handed in", brief(text))
		}
		out, _ := zlib.Unpack(b, len(text))
		clear(b[:cap(b)])
		if !bytes.Equal(out, text) {
			t.Errorf("Unpack of %s hangs on what was handed in", brief(text))
		}
		clear(out[:cap(out)])
		again := zlib.Pack(text)
		if !bytes.Equal(again, plainPack(text)) {
			t.Errorf("Pack of %s, asked again: %s", brief(text), brief(again))
		}
		wantTold(t, "asked again", again, len(text), text)
	}
	if b := deflate.Deflate([]byte("Wikipedia")); !bytes.Equal(b, wiki[2:len(wiki)-4]) {
		t.Errorf("Deflate of Wikipedia: %v", b)
	}
}
