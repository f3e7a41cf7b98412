package squeeze_test

import (
	"bytes"
	library "compress/zlib"
	"fmt"
	"math"
	"math/rand"
	"runtime"
	"slices"
	"strings"
	"testing"

	"sluicegate/api"
	"sluicegate/packet"
	"sluicegate/squeeze"
	"sluicegate/zlib"
)

// wrongMosts have those among them that would be right if some of their bits were lost.
var wrongMosts = []int{
	0, -1, -2, -60, -api.MaxFrame, -api.MaxFrame - 1, api.MaxFrame + 1, api.MaxFrame + 2, 1<<24 + 60, 1 << 30, 1<<32 + 1, 1<<32 + 60,
	math.MaxInt32, math.MinInt32, math.MinInt32 + 60, math.MaxInt, math.MinInt, math.MinInt + 1,
}

var wrongThresholds = []int{
	-1, -2, -50, -api.MaxFrame, -api.MaxFrame - 1, api.MaxFrame + 1, api.MaxFrame + 2, 1<<24 + 50, 1 << 30, 1 << 32, 1<<32 + 50,
	math.MaxInt32, math.MinInt32, math.MaxInt, math.MinInt, math.MinInt + 50,
}

// noise is n bytes by chance, which no stream tells shorter.
func noise(n int) []byte {
	b := make([]byte, n)
	rand.New(rand.NewSource(int64(n + 1))).Read(b)
	return b
}

// same is n times a, which streams tell far shorter.
func same(n int) string {
	return strings.Repeat("a", n)
}

// mixed has both, in turn, each for so many bytes.
func mixed(n, span int) []byte {
	b := noise(n)
	for i := range b {
		if i/span%2 == 1 {
			b[i] = 'a'
		}
	}
	return b
}

func wantSqueeze(t *testing.T, b []byte, seq byte, most, threshold int, want []byte, wantNext byte, wantErr api.Errno) {
	t.Helper()
	got, next, e := squeeze.Squeeze(b, seq, most, threshold)
	if !bytes.Equal(got, want) || next != wantNext || e != wantErr {
		t.Errorf("Squeeze of %s from %d, most %d, threshold %d: %s, %d, %v; want %s, %d, %v", brief(b), seq, most, threshold, brief(got), next, e, brief(want), wantNext, wantErr)
	}
}

// wantPlainSqueeze holds Squeeze against a plain reading, asks how long it is, and reads it back.
func wantPlainSqueeze(t *testing.T, b []byte, seq byte, most, threshold int) {
	t.Helper()
	want, next := plainSqueeze(b, seq, most, threshold)
	wantSqueeze(t, b, seq, most, threshold, want, next, api.OK)
	if pieces := (len(b) + most - 1) / most; len(want) > len(b)+7*pieces {
		t.Errorf("%d bytes in %d pieces are %d squeezed", len(b), pieces, len(want))
	}
	r := madeAt(t, most, seq)
	wantFeed(t, r, want, api.OK, string(b))
	wantState(t, "behind it", r, next, 0, api.OK)
}

func TestExamples(t *testing.T) {
	wantSqueeze(t, []byte("ab"), 3, 60, 50, []byte{2, 0, 0, 3, 0, 0, 0, 'a', 'b'}, 4, api.OK)
	stream := zlib.Pack([]byte(same(60)))
	if len(stream) != 11 {
		t.Fatalf("a Pack of %d bytes", len(stream))
	}
	wantSqueeze(t, []byte(same(60)), 255, 60, 50, bytesOf([]byte{11, 0, 0, 255, 60, 0, 0}, stream), 0, api.OK)
	r := made(t, 60)
	wantFeed(t, r, []byte{2, 0, 0, 0, 0, 0, 0, 97}, api.OK, "")
	wantFeed(t, r, []byte{98}, api.OK, "ab")
	wantFeed(t, made(t, 60), []byte{61, 0, 0, 0, 0, 0, 0}, api.ErrBad, "")
	wantFeed(t, made(t, 60), []byte{1, 0, 0, 1, 0, 0, 0}, api.ErrOrder, "")
	wantFeed(t, made(t, 60), []byte{1, 0, 0, 0, 5, 0, 0, 7}, api.ErrBad, "")
}

func TestP10_1Nothing(t *testing.T) {
	for x := range 256 {
		for _, most := range []int{1, 60, api.MaxFrame} {
			for _, threshold := range []int{0, 50, api.MaxFrame} {
				wantSqueeze(t, nil, byte(x), most, threshold, nil, byte(x), api.OK)
				wantSqueeze(t, []byte{}, byte(x), most, threshold, nil, byte(x), api.OK)
			}
		}
	}
}

// TestP10_1Edges has the lengths around most and its multiples, from numbers that wrap round within the frames and behind them.
func TestP10_1Edges(t *testing.T) {
	t.Parallel()
	for _, most := range []int{1, 2, 7, 11, 12, 59, 60, 61, 255, 256, 257} {
		for _, n := range []int{1, most - 1, most, most + 1, 2*most - 1, 2 * most, 2*most + 1, 3 * most, 4*most + 1} {
			for _, b := range [][]byte{[]byte(same(n)), noise(n), mixed(n, most), mixed(n, max(1, most-1))} {
				for _, threshold := range []int{0, 1, most - 1, most, most + 1, api.MaxFrame} {
					for _, seq := range []byte{0, 254, 255} {
						wantPlainSqueeze(t, b, seq, most, threshold)
					}
				}
			}
		}
	}
}

func TestP10_1Written(t *testing.T) {
	many := bytesOf([]byte{11, 0, 0, 254, 60, 0, 0}, zlib.Pack([]byte(same(60))))
	wantSqueeze(t, []byte("a"), 0, 1, 0, []byte{1, 0, 0, 0, 0, 0, 0, 'a'}, 1, api.OK)
	wantSqueeze(t, []byte("a"), 255, api.MaxFrame, api.MaxFrame, []byte{1, 0, 0, 255, 0, 0, 0, 'a'}, 0, api.OK)
	wantSqueeze(t, []byte("abc"), 254, 1, 0, []byte{1, 0, 0, 254, 0, 0, 0, 'a', 1, 0, 0, 255, 0, 0, 0, 'b', 1, 0, 0, 0, 0, 0, 0, 'c'}, 1, api.OK)
	wantSqueeze(t, []byte("abc"), 255, 2, 0, []byte{2, 0, 0, 255, 0, 0, 0, 'a', 'b', 1, 0, 0, 0, 0, 0, 0, 'c'}, 1, api.OK)
	wantSqueeze(t, []byte("abcd"), 7, 2, 0, []byte{2, 0, 0, 7, 0, 0, 0, 'a', 'b', 2, 0, 0, 8, 0, 0, 0, 'c', 'd'}, 9, api.OK)
	wantSqueeze(t, []byte(same(60)), 254, 60, 0, many, 255, api.OK)
	wantSqueeze(t, []byte(same(60)), 254, api.MaxFrame, 0, many, 255, api.OK)
	wantSqueeze(t, []byte(same(62)), 254, 60, 50, bytesOf(many, []byte{2, 0, 0, 255, 0, 0, 0, 'a', 'a'}), 0, api.OK)
	wantSqueeze(t, []byte(same(120)), 254, 60, 60, bytesOf(many, frame(11, 255, 60, zlib.Pack([]byte(same(60))))), 0, api.OK)
	front := noise(60)
	wantSqueeze(t, bytesOf(front, []byte(same(60))), 253, 60, 50, bytesOf([]byte{60, 0, 0, 253, 0, 0, 0}, front, many), 255, api.OK)
	wantSqueeze(t, bytesOf(front, []byte(same(59))), 255, 60, 50, bytesOf([]byte{60, 0, 0, 255, 0, 0, 0}, front, frame(11, 0, 59, zlib.Pack([]byte(same(59))))), 1, api.OK)
}

// TestP10_1Threshold has pieces of a byte fewer than the threshold, of just as many, and of one more.
func TestP10_1Threshold(t *testing.T) {
	for threshold := 12; threshold < 300; threshold++ {
		for n := threshold - 1; n <= threshold+1; n++ {
			want := raw(9, same(n))
			if n >= threshold {
				want = packed(9, same(n))
			}
			for _, most := range []int{n, n + 1, 1000} {
				wantSqueeze(t, []byte(same(n)), 9, most, threshold, want, 10, api.OK)
			}
			wantSqueeze(t, []byte(same(n)), 9, 1000, 0, packed(9, same(n)), 10, api.OK)
			wantSqueeze(t, []byte(same(n)), 9, 1000, api.MaxFrame, raw(9, same(n)), 10, api.OK)
		}
	}
	for threshold := range 30 {
		wantPlainSqueeze(t, []byte(same(100)), 0, 20, threshold)
		wantPlainSqueeze(t, []byte(same(95)), 0, 20, threshold)
		wantPlainSqueeze(t, []byte(same(109)), 0, 20, threshold)
	}
}

// TestP10_1AsLong has pieces whose Pack has more bytes than they, just as many, and fewer.
func TestP10_1AsLong(t *testing.T) {
	for n, more := range map[int]int{9: 1, 10: 0, 11: -1} {
		stream := zlib.Pack([]byte(same(n)))
		if len(stream)-n != more {
			t.Fatalf("a Pack of %d bytes has %d", n, len(stream))
		}
		want := raw(4, same(n))
		if more < 0 {
			want = wrapped(4, n, stream)
		}
		for threshold := range n + 1 {
			wantSqueeze(t, []byte(same(n)), 4, 60, threshold, want, 5, api.OK)
		}
	}
	equal := 0
	for n := range 80 {
		for letters := 1; letters < 6; letters++ {
			b := noise(n)
			for i := range b {
				b[i] = 'a' + b[i]%byte(letters)
			}
			if len(zlib.Pack(b)) == n {
				equal++
			}
			wantPlainSqueeze(t, b, 0, 80, 0)
		}
	}
	if equal < 5 {
		t.Errorf("only %d of the texts have a Pack that is just as long", equal)
	}
}

// TestP10_1ManyFrames has numbers that go round more than once.
func TestP10_1ManyFrames(t *testing.T) {
	for _, n := range []int{254, 255, 256, 257, 511, 512, 513, 1000} {
		for _, seq := range []byte{0, 1, 255} {
			wantPlainSqueeze(t, noise(n), seq, 1, 0)
			wantPlainSqueeze(t, noise(n), seq, 1, 2)
			wantPlainSqueeze(t, noise(n), seq, 2, 2)
			wantPlainSqueeze(t, []byte(same(n*12)), seq, 12, 12)
		}
	}
}

// TestP10_1Wire has frames of the greatest most and the greatest threshold, whose lengths take all their three bytes.
func TestP10_1Wire(t *testing.T) {
	t.Parallel()
	few := make([]byte, api.MaxFrame+1)
	stream := zlib.Pack(few[:api.MaxFrame])
	one := frame(len(stream), 255, api.MaxFrame, stream)
	if !bytes.Equal(one[4:7], []byte{255, 255, 255}) {
		t.Fatalf("a head %v", one[:7])
	}
	wantSqueeze(t, few[:api.MaxFrame-1], 255, api.MaxFrame, api.MaxFrame, frame(api.MaxFrame-1, 255, 0, few[:api.MaxFrame-1]), 0, api.OK)
	wantSqueeze(t, few, 255, api.MaxFrame, api.MaxFrame, bytesOf(one, []byte{1, 0, 0, 0, 0, 0, 0, 0}), 1, api.OK)
	wantSqueeze(t, few[:api.MaxFrame], 255, api.MaxFrame-1, api.MaxFrame, bytesOf(frame(api.MaxFrame-1, 255, 0, few[:api.MaxFrame-1]), raw(0, "\x00")), 1, api.OK)
	many := noise(100000)
	wantSqueeze(t, many, 254, api.MaxFrame, 0, bytesOf([]byte{160, 134, 1, 254, 0, 0, 0}, many), 255, api.OK)
}

func TestP10_1WrongArguments(t *testing.T) {
	for _, b := range [][]byte{nil, {}, []byte("ab"), []byte(same(200))} {
		for _, most := range wrongMosts {
			for _, threshold := range append([]int{0, 50, api.MaxFrame}, wrongThresholds...) {
				wantSqueeze(t, b, 7, most, threshold, nil, 0, api.ErrArg)
			}
		}
		for _, threshold := range wrongThresholds {
			for _, most := range []int{1, 60, api.MaxFrame} {
				wantSqueeze(t, b, 7, most, threshold, nil, 0, api.ErrArg)
			}
		}
	}
}

func TestP10_1Drawn(t *testing.T) {
	t.Parallel()
	r := rand.New(rand.NewSource(10))
	for range 3000 {
		b := mixed(r.Intn(400), 1+r.Intn(60))
		wantPlainSqueeze(t, b, byte(r.Intn(256)), 1+r.Intn(150), r.Intn(120))
	}
}

func TestP10_2New(t *testing.T) {
	for _, most := range []int{1, 2, 60, api.MaxFrame - 1, api.MaxFrame} {
		r := made(t, most)
		wantState(t, fmt.Sprint("new of ", most), r, 0, 0, api.OK)
		wantFeed(t, r, raw(0, "a"), api.OK, "a")
		wantFeed(t, r, frame(most, 1, most, nil), api.OK, "")
		if most < api.MaxFrame {
			wantFeed(t, made(t, most), frame(most+1, 0, most, nil), api.ErrBad, "")
			wantFeed(t, made(t, most), frame(most, 0, most+1, nil), api.ErrBad, "")
		}
	}
	for _, most := range wrongMosts {
		if r, e := squeeze.New(most); r != nil || e != api.ErrArg {
			t.Errorf("New of %d: %v, %v", most, r, e)
		}
	}
}

// TestP10_2ExpectBetween has readers that hold no bytes: each number may be expected, more than once.
func TestP10_2ExpectBetween(t *testing.T) {
	for _, before := range [][]byte{nil, {}, raw(0, ""), raw(0, "abc"), packed(0, same(60)), bytesOf(raw(0, "abcd"), packed(1, "x"), raw(2, ""))} {
		for x := range 256 {
			seq := byte(x)
			r := made(t, 60)
			if _, e := r.Feed(before); e != api.OK {
				t.Fatalf("Feed of %v: %v", before, e)
			}
			wantExpect(t, "between", r, seq+1, api.OK)
			wantExpect(t, "again", r, seq, api.OK)
			wantState(t, "between", r, seq, 0, api.OK)
			wantFeed(t, r, raw(seq, "xy"), api.OK, "xy")
			wantState(t, "behind it", r, seq+1, 0, api.OK)
		}
		r := made(t, 60)
		r.Feed(before)
		wantExpect(t, "between", r, 100, api.OK)
		wantFeed(t, r, raw(101, "xy"), api.ErrOrder, "")
	}
}

// TestP10_2ExpectWithin has readers that hold bytes of a head, a whole head, and bytes behind it: what they refuse changes nothing.
func TestP10_2ExpectWithin(t *testing.T) {
	for _, whole := range [][]byte{raw(1, "abcd"), packed(1, same(60))} {
		want := plainRead(whole, 1, 60)
		for n := 1; n < len(whole); n++ {
			r := made(t, 60)
			wantFeed(t, r, bytesOf(raw(0, "x"), whole[:n]), api.OK, "x")
			for _, seq := range []byte{0, 1, 2, 7, 255} {
				wantExpect(t, fmt.Sprint("within, at ", n), r, seq, api.ErrBad)
				wantState(t, fmt.Sprint("within, at ", n), r, 1, n, api.OK)
			}
			wantFeed(t, r, nil, api.OK, "")
			wantExpect(t, fmt.Sprint("and nothing more, at ", n), r, 1, api.ErrBad)
			wantFeed(t, r, whole[n:], api.OK, string(want.told))
			wantExpect(t, "behind it", r, 9, api.OK)
			wantState(t, "behind it", r, 9, 0, api.OK)
		}
	}
}

// TestP10_3Written feeds one reader with what the chapter names, and looks at it behind each.
func TestP10_3Written(t *testing.T) {
	r := made(t, 60)
	wantFeed(t, r, nil, api.OK, "")
	wantFeed(t, r, []byte{}, api.OK, "")
	wantState(t, "nothing", r, 0, 0, api.OK)
	wantFeed(t, r, raw(0, ""), api.OK, "")
	wantState(t, "a raw frame of no bytes", r, 1, 0, api.OK)
	wantFeed(t, r, raw(1, "abcd"), api.OK, "abcd")
	wantState(t, "a raw one", r, 2, 0, api.OK)
	wantFeed(t, r, packed(2, same(60)), api.OK, same(60))
	wantState(t, "one that is not raw", r, 3, 0, api.OK)
	wantFeed(t, r, bytesOf(raw(3, "a"), packed(4, "bc"), raw(5, ""), raw(6, "d"), packed(7, same(12))), api.OK, "abcd"+same(12))
	wantState(t, "several", r, 8, 0, api.OK)
	wantFeed(t, r, bytesOf(raw(8, "x"), []byte{2, 0, 0, 9}), api.OK, "x")
	wantState(t, "bytes of a head", r, 9, 4, api.OK)
	wantFeed(t, r, []byte{0, 0}, api.OK, "")
	wantState(t, "all but one", r, 9, 6, api.OK)
	wantFeed(t, r, []byte{0}, api.OK, "")
	wantState(t, "a whole head", r, 9, 7, api.OK)
	wantFeed(t, r, []byte("a"), api.OK, "")
	wantState(t, "a byte behind it", r, 9, 8, api.OK)
	wantFeed(t, r, bytesOf([]byte("b"), packed(10, "cd"), []byte{1}), api.OK, "abcd")
	wantState(t, "its last byte, a frame and a byte", r, 11, 1, api.OK)
	wantFeed(t, r, bytesOf(raw(11, "e")[1:], raw(12, "x"), raw(12, "y"), raw(13, "z")), api.ErrOrder, "ex")
	wantState(t, "a wrong number", r, 13, 0, api.ErrOrder)
}

// TestP10_3EachCut cuts frames at each place, and at each two, and feeds them byte by byte and with chunks of nothing between.
func TestP10_3EachCut(t *testing.T) {
	t.Parallel()
	stream := zlib.Pack([]byte(same(20)))
	wrong := slices.Clone(stream)
	wrong[len(wrong)-1]++
	streams := [][]byte{
		bytesOf(raw(0, "a"), raw(1, ""), packed(2, same(20)), raw(3, "xyz"), packed(4, "b")),
		bytesOf(raw(0, ""), raw(1, ""), raw(2, "")),
		bytesOf(raw(0, "ab"), frame(21, 1, 0, []byte("abcde")), raw(2, "x")),
		bytesOf(raw(0, "ab"), frame(3, 1, 21, []byte("abc")), raw(2, "x")),
		bytesOf(packed(0, "ab"), raw(2, "ab"), raw(1, "x")),
		bytesOf(raw(0, "ab"), wrapped(1, 20, wrong), raw(2, "x")),
		bytesOf(raw(0, "ab"), wrapped(1, 19, stream), raw(2, "x")),
		bytesOf(packed(0, "ab"), wrapped(1, 5, nil), raw(2, "x")),
		bytesOf(raw(0, "abc"), []byte{4, 0}),
		{4, 0, 0, 0, 0, 0, 0, 'a', 'b', 'c'},
	}
	for _, all := range streams {
		wantChunks(t, all, 0, 20, each(all)...)
		for i := range len(all) + 1 {
			for j := i; j <= len(all); j++ {
				wantChunks(t, all, 0, 20, i, j)
			}
		}
	}
}

// TestP10_3WrongHeads hands in a head's bytes one by one: the error comes with the seventh, and with nothing behind it.
func TestP10_3WrongHeads(t *testing.T) {
	ahead := bytesOf(raw(0, "ab"), packed(1, "cd"))
	for _, x := range []struct {
		head []byte
		e    api.Errno
	}{
		{[]byte{60, 0, 0, 2, 60, 0, 0}, api.OK}, {[]byte{60, 0, 0, 2, 0, 0, 0}, api.OK}, {[]byte{1, 0, 0, 2, 60, 0, 0}, api.OK},
		{[]byte{61, 0, 0, 2, 0, 0, 0}, api.ErrBad}, {[]byte{0, 1, 0, 2, 0, 0, 0}, api.ErrBad}, {[]byte{0, 0, 1, 2, 0, 0, 0}, api.ErrBad},
		{[]byte{60, 0, 0, 2, 61, 0, 0}, api.ErrBad}, {[]byte{1, 0, 0, 2, 0, 1, 0}, api.ErrBad}, {[]byte{1, 0, 0, 2, 0, 0, 1}, api.ErrBad},
		{[]byte{0, 0, 0, 2, 61, 0, 0}, api.ErrBad}, {[]byte{61, 0, 0, 2, 61, 0, 0}, api.ErrBad}, {[]byte{255, 255, 255, 2, 255, 255, 255}, api.ErrBad},
		{[]byte{1, 0, 0, 1, 0, 0, 0}, api.ErrOrder}, {[]byte{1, 0, 0, 3, 0, 0, 0}, api.ErrOrder}, {[]byte{60, 0, 0, 130, 60, 0, 0}, api.ErrOrder},
		{[]byte{0, 0, 0, 0, 0, 0, 0}, api.ErrOrder}, {[]byte{0, 0, 0, 3, 5, 0, 0}, api.ErrOrder}, {[]byte{0, 0, 0, 255, 0, 0, 0}, api.ErrOrder},
		{[]byte{61, 0, 0, 3, 0, 0, 0}, api.ErrBad}, {[]byte{1, 0, 0, 3, 61, 0, 0}, api.ErrBad}, {[]byte{9, 9, 9, 9, 9, 9, 9}, api.ErrBad},
	} {
		r := made(t, 60)
		wantFeed(t, r, ahead, api.OK, "abcd")
		for i := range 6 {
			wantFeed(t, r, x.head[i:i+1], api.OK, "")
			wantState(t, fmt.Sprint(x.head, " up to ", i), r, 2, i+1, api.OK)
		}
		wantFeed(t, r, x.head[6:], x.e, "")
		if x.e != api.OK {
			wantState(t, fmt.Sprint(x.head), r, 2, 0, x.e)
		} else {
			wantState(t, fmt.Sprint(x.head), r, 2, 7, api.OK)
		}
		for _, behind := range []string{"", "x", "xyzuvw", same(70)} {
			all := bytesOf(ahead, x.head, []byte(behind))
			if x.e != api.OK {
				wantFeed(t, made(t, 60), all, x.e, "abcd")
			}
			wantEachCut(t, all, 0, 60)
		}
	}
}

// TestP10_3FirstHead has wrong numbers in the first frame of all.
func TestP10_3FirstHead(t *testing.T) {
	for _, seq := range []byte{0, 1, 7, 128, 254, 255} {
		for x := range 256 {
			got, e := byte(x), api.ErrOrder
			if got == seq {
				e = api.OK
			}
			wantFeed(t, madeAt(t, 60, seq), frame(3, got, 0, nil), e, "")
			wantFeed(t, madeAt(t, 60, seq), frame(3, got, 4, nil), e, "")
			wantFeed(t, madeAt(t, 60, seq), frame(61, got, 0, nil), api.ErrBad, "")
			wantFeed(t, madeAt(t, 60, seq), frame(3, got, 61, nil), api.ErrBad, "")
		}
	}
}

// TestP10_3WrapsRound reads more frames than there are numbers.
func TestP10_3WrapsRound(t *testing.T) {
	r := made(t, 60)
	wantExpect(t, "new", r, 254, api.OK)
	wantFeed(t, r, bytesOf(raw(254, "a"), packed(255, "b"), raw(0, ""), raw(1, "c")), api.OK, "abc")
	wantState(t, "round", r, 2, 0, api.OK)
	for i := range 1000 {
		wantFeed(t, r, raw(byte(i+2), "x"), api.OK, "x")
		wantState(t, "round and round", r, byte(i+3), 0, api.OK)
	}
}

// wrongStreams tell hello of twelve bytes, but for what is wrong with them.
func wrongStreams() []struct {
	name   string
	tells  int
	stream []byte
	e      api.Errno
} {
	right := zlib.Pack([]byte("hello, hello"))
	last := len(right) - 1
	changed := func(at int, to byte) []byte {
		b := slices.Clone(right)
		b[at] = to
		return b
	}
	return []struct {
		name   string
		tells  int
		stream []byte
		e      api.Errno
	}{
		{"right", 12, right, api.OK},
		{"a wrong sum", 12, changed(last, right[last]+1), api.ErrSum},
		{"a wrong sum, in its first byte", 12, changed(last-3, right[last-3]^128), api.ErrSum},
		{"a wrong sum, and fewer bytes", 13, changed(last, right[last]+1), api.ErrSum},
		{"a wrong sum, and bytes behind it", 12, append(changed(last, right[last]+1), 0), api.ErrSum},
		{"a wrong sum, and more bytes", 11, changed(last, right[last]+1), api.ErrBad},
		{"a bad head", 12, changed(0, 121), api.ErrBad},
		{"a bad head, its second byte", 12, changed(1, 2), api.ErrBad},
		{"a bad block", 12, changed(2, right[2]|7), api.ErrBad},
		{"one byte", 12, right[:1], api.ErrBad},
		{"the head alone", 12, right[:2], api.ErrBad},
		{"cut short in the stream", 12, right[:5], api.ErrBad},
		{"cut short ahead of the sum", 12, right[:last-3], api.ErrBad},
		{"cut short in the sum", 12, right[:last], api.ErrBad},
		{"a byte behind it", 12, append(slices.Clone(right), 0), api.ErrBad},
		{"itself behind it", 12, append(slices.Clone(right), right...), api.ErrBad},
		{"more bytes by one", 11, right, api.ErrBad},
		{"more bytes by all but one", 1, right, api.ErrBad},
		{"fewer bytes by one", 13, right, api.ErrBad},
		{"fewer bytes by many", 60, right, api.ErrBad},
		{"nothing told", 1, zlib.Pack(nil), api.ErrBad},
		{"no bytes", 1, nil, api.ErrBad},
		{"no bytes of many", 60, nil, api.ErrBad},
		{"not packed", 12, []byte("hello, hello"), api.ErrBad},
	}
}

// TestP10_3WrongStreams has the error come with the frame's last byte, behind what was told, and with nothing behind it.
func TestP10_3WrongStreams(t *testing.T) {
	for _, x := range wrongStreams() {
		told, next := "", byte(1)
		if x.e == api.OK {
			told, next = "hello, hello", 2
		}
		for _, ahead := range [][]byte{raw(0, "ab"), packed(0, "ab"), bytesOf(raw(255, "a"), raw(0, "b"))} {
			all := bytesOf(ahead, wrapped(1, x.tells, x.stream))
			r := madeAt(t, 60, ahead[3])
			wantFeed(t, r, all[:len(all)-1], api.OK, "ab")
			wantState(t, x.name+", but for its last byte", r, 1, 6+len(x.stream), api.OK)
			wantFeed(t, r, all[len(all)-1:], x.e, told)
			wantState(t, x.name, r, next, 0, x.e)
			wantFeed(t, madeAt(t, 60, ahead[3]), all, x.e, "ab"+told)
			wantEachCut(t, all, ahead[3], 60)
			wantEachCut(t, bytesOf(all, raw(2, "xy")), ahead[3], 60)
		}
	}
}

// TestP10_3EveryBit turns each bit of a row of frames, one by one, and cuts it elsewhere each time.
func TestP10_3EveryBit(t *testing.T) {
	t.Parallel()
	all := bytesOf(raw(7, "ab"), packed(8, same(30)+"b"), raw(9, ""), packed(10, "select 1, select 1"))
	for bit := range 8 * len(all) {
		b := slices.Clone(all)
		b[bit/8] ^= 1 << (bit % 8)
		wantChunks(t, b, 7, 60, bit/9)
		wantChunks(t, b, 7, 60, each(b)...)
	}
}

// TestP10_3OthersStreams reads what the library packs, by codes of its own, too.
func TestP10_3OthersStreams(t *testing.T) {
	text := []byte(strings.Repeat("select a, b from c where d = 'e' and f > 17; ", 200))
	for level := library.HuffmanOnly; level <= library.BestCompression; level++ {
		var all []byte
		var seq byte
		for piece := range slices.Chunk(bytesOf(text, noise(1000)), 3000) {
			var out bytes.Buffer
			w, err := library.NewWriterLevel(&out, level)
			if err != nil {
				t.Fatal(err)
			}
			w.Write(piece)
			w.Close()
			all = bytesOf(all, wrapped(seq, len(piece), out.Bytes()))
			seq++
		}
		wantFeed(t, made(t, 4000), all, api.OK, string(text)+string(noise(1000)))
		wantChunks(t, all, 0, 4000, 6, 7, 8, len(all)/2, len(all)-1)
	}
}

// TestP10_3Wire has frames of the greatest most, byte by byte, which must not take much longer than at once.
func TestP10_3Wire(t *testing.T) {
	t.Parallel()
	b := noise(api.MaxFrame)
	r := madeAt(t, api.MaxFrame, 255)
	all := bytesOf([]byte{255, 255, 255, 255, 0, 0, 0}, b)
	for i := range len(all) - 1 {
		if got, e := r.Feed(all[i : i+1]); len(got) != 0 || e != api.OK {
			t.Fatalf("the byte %d of %d: %s, %v", i, len(all), brief(got), e)
		}
	}
	wantState(t, "all but a byte", r, 255, api.MaxFrame+6, api.OK)
	wantFeed(t, r, all[len(all)-1:], api.OK, string(b))
	wantState(t, "behind it", r, 0, 0, api.OK)
	few := make([]byte, api.MaxFrame)
	wantFeed(t, r, bytesOf(packed(0, string(few)), raw(1, "x")), api.OK, string(few)+"x")
	wantFeed(t, made(t, api.MaxFrame-1), frame(api.MaxFrame, 0, 0, nil), api.ErrBad, "")
	wantFeed(t, made(t, api.MaxFrame-1), frame(9, 0, api.MaxFrame, nil), api.ErrBad, "")
	wantFeed(t, made(t, api.MaxFrame), wrapped(0, api.MaxFrame, zlib.Pack(few[1:])), api.ErrBad, "")
}

// TestP10_4BehindAnError asks readers that stopped, each by another error: nothing moves them any more.
func TestP10_4BehindAnError(t *testing.T) {
	type stop struct {
		b    []byte
		e    api.Errno
		next byte
	}
	stops := []stop{
		{frame(61, 0, 0, nil), api.ErrBad, 0},
		{frame(1, 0, 61, nil), api.ErrBad, 0},
		{frame(1, 1, 0, nil), api.ErrOrder, 0},
		{bytesOf(raw(0, "a"), raw(1, "b"), raw(1, "c"), raw(2, "d")), api.ErrOrder, 2},
		{bytesOf(raw(0, "a"), frame(61, 1, 0, nil), raw(1, "d")), api.ErrBad, 1},
	}
	for _, x := range wrongStreams()[1:] {
		stops = append(stops, stop{bytesOf(raw(0, "a"), wrapped(1, x.tells, x.stream)), x.e, 1}, stop{wrapped(0, x.tells, x.stream), x.e, 0})
	}
	for _, x := range stops {
		r := made(t, 60)
		if _, e := r.Feed(x.b); e != x.e {
			t.Errorf("Feed of %v: %v, want %v", x.b, e, x.e)
		}
		for _, b := range [][]byte{nil, {}, {0}, raw(0, ""), raw(x.next, ""), raw(x.next, "ab"), packed(x.next+1, "ab"), {9, 9, 9, 9, 9, 9, 9}} {
			wantState(t, "stopped", r, x.next, 0, x.e)
			wantFeed(t, r, b, api.ErrOver, "")
			wantExpect(t, "stopped", r, x.next+5, api.ErrOver)
			wantExpect(t, "stopped", r, 0, api.ErrOver)
			wantState(t, "stopped", r, x.next, 0, x.e)
		}
	}
}

// TestP10_4NotMade has readers that New did not make: they are none, and stay none.
func TestP10_4NotMade(t *testing.T) {
	var nobody *squeeze.Reader
	emptied := made(t, 60)
	emptied.Feed([]byte{2, 0, 0, 0, 0, 0, 0, 'a'})
	*emptied = squeeze.Reader{}
	for name, r := range map[string]*squeeze.Reader{"nil": nobody, "zero": {}, "new": new(squeeze.Reader), "emptied": emptied} {
		for _, b := range [][]byte{nil, {}, {0}, raw(0, ""), raw(0, "ab"), packed(0, "ab"), {9, 9, 9, 9, 9, 9, 9}} {
			wantFeed(t, r, b, api.ErrNil, "")
			wantExpect(t, name, r, 0, api.ErrNil)
			wantExpect(t, name, r, 7, api.ErrNil)
			wantState(t, name, r, 0, 0, api.ErrNil)
		}
	}
}

// TestP10_4InTurn feeds readers in turn: each goes by its own bytes.
func TestP10_4InTurn(t *testing.T) {
	streams := [][]byte{
		bytesOf(raw(0, "abcd"), packed(1, "e"), raw(2, "f")), bytesOf(packed(0, "ABCD"), raw(1, ""), raw(2, "E")),
		bytesOf(raw(0, "xy"), raw(1, "zxyz"), raw(3, "")), bytesOf(raw(0, "1"), frame(61, 1, 0, []byte("1234567"))),
	}
	readers := make([]*squeeze.Reader, len(streams))
	got := make([][]byte, len(streams))
	for i := range streams {
		readers[i] = made(t, 60)
	}
	for at := range 48 {
		for i, all := range streams {
			b, _ := readers[i].Feed(all[min(at, len(all)):min(at+1, len(all))])
			got[i] = append(got[i], b...)
			want := plainRead(all[:min(at+1, len(all))], 0, 60)
			if !bytes.Equal(got[i], want.told) {
				t.Errorf("the reader %d: %s, want %s", i, brief(got[i]), brief(want.told))
			}
			wantState(t, fmt.Sprint("the reader ", i), readers[i], want.next, want.held, want.stopped)
		}
	}
}

// TestP10_5AllFrames has all rows of up to three short frames, right ones and wrong ones, cut at each place.
func TestP10_5AllFrames(t *testing.T) {
	t.Parallel()
	const most = 12
	streams := [][]byte{zlib.Pack([]byte("a")), zlib.Pack([]byte(same(12))), {1}}
	var grow func(all []byte, next byte, left int)
	grow = func(all []byte, next byte, left int) {
		wantEachCut(t, all, 254, most)
		if left == 0 || t.Failed() {
			return
		}
		for _, seq := range []byte{next, next + 1} {
			for _, n := range []int{0, 1, most, most + 1} {
				grow(bytesOf(all, raw(seq, same(n))), next+1, left-1)
			}
			for _, stream := range streams {
				for _, tells := range []int{1, most, most + 1} {
					grow(bytesOf(all, wrapped(seq, tells, stream)), next+1, left-1)
				}
			}
		}
	}
	grow(nil, 254, 2)
	for _, first := range [][]byte{raw(254, ""), raw(254, "ab"), packed(254, same(12))} {
		grow(bytesOf(first, packed(255, "b")), 0, 1)
	}
}

// TestP10_5Drawn squeezes drawn bytes with any most and threshold, now and then spoils them or cuts them off, and feeds them in drawn chunks.
func TestP10_5Drawn(t *testing.T) {
	t.Parallel()
	r := rand.New(rand.NewSource(11))
	for range 4000 {
		most, threshold, seq := 1+r.Intn(100), r.Intn(100), byte(r.Intn(256))
		b := mixed(r.Intn(300), 1+r.Intn(50))
		all, _, e := squeeze.Squeeze(b, seq, most, threshold)
		if e != api.OK {
			t.Fatal(e)
		}
		if len(all) > 0 && r.Intn(3) == 0 {
			all[r.Intn(len(all))] = byte(r.Intn(256))
		}
		if r.Intn(3) == 0 {
			all = all[:r.Intn(len(all)+1)]
		}
		var cuts []int
		for range r.Intn(10) {
			cuts = append(cuts, r.Intn(len(all)+1))
		}
		slices.Sort(cuts)
		wantChunks(t, all, seq, most, cuts...)
		if t.Failed() {
			return
		}
	}
}

// TestP10_5AnyBytes has bytes that are frames by chance only.
func TestP10_5AnyBytes(t *testing.T) {
	t.Parallel()
	r := rand.New(rand.NewSource(12))
	for range 10000 {
		all := make([]byte, r.Intn(60))
		for i := range all {
			all[i] = byte([]int{0, 0, 0, 0, 0, r.Intn(4), r.Intn(256)}[r.Intn(7)])
		}
		most := []int{1, 2, 3, 4, 1000, 70000}[r.Intn(6)]
		wantChunks(t, all, 0, most, r.Intn(len(all)+1))
		wantChunks(t, all, 0, most, each(all)...)
	}
}

// TestP10_5ThereAndBack squeezes with many a most and threshold, and feeds chunks of many sizes.
func TestP10_5ThereAndBack(t *testing.T) {
	t.Parallel()
	for _, most := range []int{1, 2, 10, 60, 100, 1000, 70000, api.MaxFrame} {
		for _, threshold := range []int{0, 1, 50, 100, api.MaxFrame} {
			for _, b := range [][]byte{nil, []byte("a"), []byte(same(3000)), noise(3000), mixed(3000, 100), mixed(2999, 77)} {
				all, next, e := squeeze.Squeeze(b, 250, most, threshold)
				if e != api.OK {
					t.Fatal(e)
				}
				for _, size := range []int{1, 2, 7, 8, 100, 4096, 1 << 20} {
					wantBack(t, all, next, most, size, b)
				}
			}
		}
	}
}

// wantBack feeds what was squeezed from 250 on in chunks of one size, and asks that just these bytes are told.
func wantBack(t *testing.T, all []byte, next byte, most, size int, want []byte) {
	t.Helper()
	r := madeAt(t, most, 250)
	var got []byte
	for chunk := range slices.Chunk(all, size) {
		b, e := r.Feed(chunk)
		if e != api.OK || r.Held() > most+7 {
			t.Fatalf("most %d, chunks of %d: %v, Held %d", most, size, e, r.Held())
		}
		got = append(got, b...)
	}
	if !bytes.Equal(got, want) {
		t.Errorf("most %d, chunks of %d: %s, want %s", most, size, brief(got), brief(want))
	}
	wantState(t, fmt.Sprint("most ", most, ", chunks of ", size), r, next, 0, api.OK)
}

// TestP10_5FramesWithin has frames of payloads within squeezed ones, that end elsewhere.
func TestP10_5FramesWithin(t *testing.T) {
	t.Parallel()
	var frames []byte
	var bodies [][]byte
	var seq byte
	for n := range 60 {
		body := mixed(3*n, 40)
		b, next, e := packet.Split(body, seq, 50)
		if e != api.OK {
			t.Fatal(e)
		}
		frames, bodies, seq = append(frames, b...), append(bodies, body), next
	}
	for _, most := range []int{1, 3, 4, 5, 53, 54, 55, 1000, 100000} {
		for _, threshold := range []int{0, 50, api.MaxFrame} {
			all, _, e := squeeze.Squeeze(frames, 3, most, threshold)
			if e != api.OK {
				t.Fatal(e)
			}
			for _, size := range []int{1, 6, 61, 5000} {
				wantPayloads(t, all, most, size, bodies)
			}
		}
	}
}

// wantPayloads reads squeezed frames, and frames out of what they tell, as it comes.
func wantPayloads(t *testing.T, all []byte, most, size int, want [][]byte) {
	t.Helper()
	outer := madeAt(t, most, 3)
	inner, e := packet.New(50, 200)
	if e != api.OK {
		t.Fatal(e)
	}
	var got [][]byte
	for chunk := range slices.Chunk(all, size) {
		b, e := outer.Feed(chunk)
		if e != api.OK {
			t.Fatalf("most %d, chunks of %d: %v", most, size, e)
		}
		packets, e := inner.Feed(b)
		if e != api.OK {
			t.Fatalf("most %d, chunks of %d, within: %v", most, size, e)
		}
		for _, p := range packets {
			got = append(got, p.Body)
		}
	}
	if !slices.EqualFunc(got, want, bytes.Equal) || inner.Held() != 0 {
		t.Errorf("most %d, chunks of %d: %d payloads, want %d; %d bytes are left", most, size, len(got), len(want), inner.Held())
	}
}

// TestP10_5HeldAtMost has the most that a reader can hold: all of a frame of most bytes but the last one.
func TestP10_5HeldAtMost(t *testing.T) {
	for most := 1; most < 100; most++ {
		r := made(t, most)
		wantFeed(t, r, frame(most, 0, 0, []byte(same(most-1))), api.OK, "")
		wantState(t, "all but the last byte", r, 0, most+6, api.OK)
		wantFeed(t, r, []byte("a123456"), api.OK, same(most))
		wantState(t, "bytes of the next head", r, 1, 6, api.OK)
	}
}

// TestKeepsLittle has readers that read much and hold little: what was told, or came ahead of an error, is not kept beside it.
func TestKeepsLittle(t *testing.T) {
	const many, size = 64, 1 << 20
	large := raw(0, string(noise(size)))
	small := bytes.Repeat(raw(0, string(noise(1000))), size/1000)
	for i := range size / 1000 {
		small[i*1007+3] = byte(i)
	}
	next := byte(size / 1000 % 256)
	for name, all := range map[string][]byte{
		"behind a large frame": large, "a byte behind a large frame": append(slices.Clone(large), 1), "stopped behind a large frame": bytesOf(large, raw(7, "")),
		"behind small frames": small, "a byte behind small frames": append(slices.Clone(small), 1), "stopped behind small frames": bytesOf(small, raw(next+1, "")),
		"stopped by a large frame": wrapped(0, 5, noise(size)),
	} {
		var before, after runtime.MemStats
		runtime.GC()
		runtime.ReadMemStats(&before)
		readers := make([]*squeeze.Reader, many)
		for i := range readers {
			readers[i] = made(t, size)
			for chunk := range slices.Chunk(all, 300000) {
				readers[i].Feed(chunk)
			}
		}
		runtime.GC()
		runtime.ReadMemStats(&after)
		if kept := int64(after.HeapAlloc) - int64(before.HeapAlloc); kept > many*size/8 {
			t.Errorf("%s: %d readers keep %d bytes", name, many, kept)
		}
		runtime.KeepAlive(readers)
	}
}

// spoil changes bytes, and those in the room behind them.
func spoil(b []byte) {
	for i := range b[:cap(b)] {
		b[:cap(b)][i] ^= 255
	}
}

// TestWhatIsHandedInStays looks at the bytes that were handed in, and at the room behind them, and changes both behind the call.
func TestWhatIsHandedInStays(t *testing.T) {
	all := bytesOf(raw(0, "ab"), packed(1, same(40)), raw(2, ""), raw(3, "xyz"), packed(4, "c"))
	want := plainRead(all, 0, 60).told
	for n := range len(all) + 1 {
		room := slices.Clone(all)
		r := made(t, 60)
		got, _ := r.Feed(room[:n])
		squeezed, next, _ := squeeze.Squeeze(room[:n], 255, 20, 10)
		if !bytes.Equal(room, all) {
			t.Fatalf("%d bytes were changed: %v", n, room)
		}
		held := r.Held()
		spoil(room)
		if r.Held() != held {
			t.Errorf("Held was %d, is %d", held, r.Held())
		}
		if plain, wantNext := plainSqueeze(all[:n], 255, 20, 10); !bytes.Equal(squeezed, plain) || next != wantNext {
			t.Errorf("Squeeze of %v changed with what was handed in: %v", all[:n], squeezed)
		}
		more := slices.Clone(all[n:])
		rest, e := r.Feed(more)
		spoil(more)
		if !bytes.Equal(append(got, rest...), want) || e != api.OK {
			t.Errorf("cut at %d: %s and %s, %v", n, brief(got), brief(rest), e)
		}
	}
}

// TestOneBuffer feeds out of one buffer that is written anew for each chunk, as one that reads a wire does.
func TestOneBuffer(t *testing.T) {
	text := mixed(2000, 30)
	all, _ := plainSqueeze(text, 0, 50, 20)
	for _, size := range []int{1, 2, 3, 6, 7, 8, 16, 57, 100} {
		r, buffer := made(t, 50), make([]byte, size)
		var got []byte
		for chunk := range slices.Chunk(all, size) {
			b, e := r.Feed(buffer[:copy(buffer, chunk)])
			if e != api.OK {
				t.Fatalf("a buffer of %d: %v", size, e)
			}
			got = append(got, b...)
		}
		if !bytes.Equal(got, text) {
			t.Errorf("a buffer of %d: %s", size, brief(got))
		}
	}
}

// TestAnswersAreNew spoils each answer as soon as it is there: what comes later is told as it should be.
func TestAnswersAreNew(t *testing.T) {
	text := mixed(1000, 30)
	all, _ := plainSqueeze(text, 0, 50, 20)
	kept := slices.Clone(all)
	for _, size := range []int{1, 2, 3, 7, 9, 30, 57, 64, 100, 1000} {
		r, n := made(t, 50), 0
		for chunk := range slices.Chunk(all, size) {
			got, _ := r.Feed(chunk)
			if n+len(got) > len(text) || !bytes.Equal(got, text[n:n+len(got)]) {
				t.Fatalf("chunks of %d, at %d: %s", size, n, brief(got))
			}
			n += len(got)
			spoil(got)
		}
		if n != len(text) || !bytes.Equal(all, kept) {
			t.Fatalf("chunks of %d: %d bytes were told, or what was handed in is spoilt", size, n)
		}
	}
	for _, b := range [][]byte{text, noise(40), []byte(same(40))} {
		was := slices.Clone(b)
		one, _, _ := squeeze.Squeeze(b, 0, 50, 20)
		two, _, _ := squeeze.Squeeze(b, 0, 50, 20)
		spoil(one)
		if want, _ := plainSqueeze(was, 0, 50, 20); !bytes.Equal(two, want) || !bytes.Equal(b, was) {
			t.Error("answers of Squeeze share bytes, or have those that were handed in")
		}
	}
}

// TestTwoReadersApart has readers that were handed the same bytes, and answers of one that are spoilt.
func TestTwoReadersApart(t *testing.T) {
	all := bytesOf(raw(0, "abcd"), packed(1, "ef"), raw(2, "gh"))
	for n := range len(all) + 1 {
		x, y := made(t, 60), made(t, 60)
		first, _ := x.Feed(all[:n])
		got, _ := y.Feed(all[:n])
		spoil(first)
		second, _ := x.Feed(all[n:])
		rest, _ := y.Feed(all[n:])
		spoil(second)
		if string(got)+string(rest) != "abcdefgh" {
			t.Errorf("cut at %d: %q, %q", n, got, rest)
		}
	}
}
