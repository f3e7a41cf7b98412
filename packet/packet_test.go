package packet_test

import (
	"bytes"
	"fmt"
	"math"
	"math/rand"
	"runtime"
	"slices"
	"strings"
	"testing"

	"sluicegate/api"
	"sluicegate/packet"
)

// wrongMosts have those among them that would be right if some of their bits were lost.
var wrongMosts = []int{
	0, -1, -2, -4, -api.MaxFrame, -api.MaxFrame - 1, api.MaxFrame + 1, api.MaxFrame + 2, 1<<24 + 4, 1 << 30, 1<<32 + 1, 1<<32 + 4,
	math.MaxInt32, math.MinInt32, math.MinInt32 + 4, math.MaxInt, math.MinInt, math.MinInt + 1,
}

var wrongLimits = []int{
	-1, -2, -9, -api.MaxPayload, api.MaxPayload + 1, api.MaxPayload + 2, 1 << 31, 1 << 32, 1<<32 + 9,
	math.MaxInt32, math.MinInt32, math.MaxInt, math.MinInt, math.MinInt + 9,
}

func noise(n int) []byte {
	b := make([]byte, n)
	rand.New(rand.NewSource(int64(n + 1))).Read(b)
	return b
}

func text(seq, next byte, body string) api.Packet {
	return api.Packet{Seq: seq, Next: next, Body: []byte(body)}
}

func wantSplit(t *testing.T, body []byte, seq byte, most int, want []byte, wantNext byte, wantErr api.Errno) {
	t.Helper()
	got, next, e := packet.Split(body, seq, most)
	if !bytes.Equal(got, want) || next != wantNext || e != wantErr {
		t.Errorf("Split of %s from %d by %d: %s, %d, %v; want %s, %d, %v", brief(body), seq, most, brief(got), next, e, brief(want), wantNext, wantErr)
	}
}

func wantJoin(t *testing.T, b []byte, most, limit int, wantSize int, wantErr api.Errno, want ...api.Packet) {
	t.Helper()
	got, n, e := packet.Join(b, most, limit)
	name := fmt.Sprintf("Join of %s, most %d, limit %d", brief(b), most, limit)
	wantPackets(t, name, got, want)
	if n != wantSize || e != wantErr {
		t.Errorf("%s: %d bytes, %v; want %d, %v", name, n, e, wantSize, wantErr)
	}
}

func TestExamples(t *testing.T) {
	wantSplit(t, []byte("abcdef"), 254, 4, []byte{4, 0, 0, 254, 'a', 'b', 'c', 'd', 2, 0, 0, 255, 'e', 'f'}, 0, api.OK)
	wantSplit(t, []byte("abcd"), 0, 4, []byte{4, 0, 0, 0, 'a', 'b', 'c', 'd', 0, 0, 0, 1}, 2, api.OK)
	r := made(t, 4, 9)
	wantFeed(t, r, []byte{2, 0, 0}, api.OK)
	wantFeed(t, r, []byte{0, 97}, api.OK)
	wantFeed(t, r, []byte{98, 1, 0, 0}, api.OK, text(0, 1, "ab"))
	wantState(t, "behind ab", r, 1, 3, api.OK)
	wantFeed(t, made(t, 4, 9), []byte{5, 0, 0, 0}, api.ErrBad)
	wantFeed(t, made(t, 4, 9), []byte{1, 0, 0, 1}, api.ErrOrder)
	wantFeed(t, made(t, 4, 9), []byte{4, 0, 0, 0, 'a', 'b', 'c', 'd', 4, 0, 0, 1, 'a', 'b', 'c', 'd', 2, 0, 0, 2}, api.ErrLong)
	wantJoin(t, []byte{1, 0, 0, 7, 97, 1, 0}, 4, 9, 5, api.ErrShort, text(7, 8, "a"))
}

// TestP9_1Edges has the lengths around most and its multiples, from numbers that wrap round within the payload and behind it.
func TestP9_1Edges(t *testing.T) {
	for _, most := range []int{1, 2, 3, 4, 5, 255, 256, 257, 1000, 65535, 65536, 65537} {
		for _, n := range []int{0, 1, most - 1, most, most + 1, 2*most - 1, 2 * most, 2*most + 1, 3 * most, 4*most + 1} {
			for _, seq := range []byte{0, 1, 127, 128, 252, 253, 254, 255} {
				body := noise(n)
				want, next := plainSplit(body, seq, most)
				wantSplit(t, body, seq, most, want, next, api.OK)
			}
		}
	}
}

func TestP9_1Written(t *testing.T) {
	wantSplit(t, nil, 0, 4, []byte{0, 0, 0, 0}, 1, api.OK)
	wantSplit(t, []byte{}, 255, 4, []byte{0, 0, 0, 255}, 0, api.OK)
	wantSplit(t, nil, 254, 1, []byte{0, 0, 0, 254}, 255, api.OK)
	wantSplit(t, []byte("a"), 0, 4, []byte{1, 0, 0, 0, 'a'}, 1, api.OK)
	wantSplit(t, []byte("abc"), 255, 4, []byte{3, 0, 0, 255, 'a', 'b', 'c'}, 0, api.OK)
	wantSplit(t, []byte("abcd"), 254, 4, []byte{4, 0, 0, 254, 'a', 'b', 'c', 'd', 0, 0, 0, 255}, 0, api.OK)
	wantSplit(t, []byte("abcd"), 255, 4, []byte{4, 0, 0, 255, 'a', 'b', 'c', 'd', 0, 0, 0, 0}, 1, api.OK)
	wantSplit(t, []byte("abcde"), 7, 4, []byte{4, 0, 0, 7, 'a', 'b', 'c', 'd', 1, 0, 0, 8, 'e'}, 9, api.OK)
	wantSplit(t, []byte("ab"), 254, 1, []byte{1, 0, 0, 254, 'a', 1, 0, 0, 255, 'b', 0, 0, 0, 0}, 1, api.OK)
	wantSplit(t, []byte("ab"), 0, api.MaxFrame, []byte{2, 0, 0, 0, 'a', 'b'}, 1, api.OK)
}

// TestP9_1ManyFrames has numbers that go round more than once.
func TestP9_1ManyFrames(t *testing.T) {
	for _, n := range []int{254, 255, 256, 257, 511, 512, 600, 1000} {
		for _, seq := range []byte{0, 1, 255} {
			for _, most := range []int{1, 2} {
				want, next := plainSplit(noise(n), seq, most)
				wantSplit(t, noise(n), seq, most, want, next, api.OK)
			}
		}
	}
}

// TestP9_1Wire has frames of the greatest most, whose length takes all its three bytes.
func TestP9_1Wire(t *testing.T) {
	body := noise(2*api.MaxFrame + 1)
	for _, n := range []int{api.MaxFrame - 1, api.MaxFrame, api.MaxFrame + 1, 2 * api.MaxFrame, 2*api.MaxFrame + 1} {
		want, next := plainSplit(body[:n], 255, api.MaxFrame)
		wantSplit(t, body[:n], 255, api.MaxFrame, want, next, api.OK)
	}
	wantSplit(t, body[:api.MaxFrame], 255, api.MaxFrame, bytesOf([]byte{255, 255, 255, 255}, body[:api.MaxFrame], []byte{0, 0, 0, 0}), 1, api.OK)
	want, next := plainSplit(body[:api.MaxFrame], 0, api.MaxFrame-1)
	wantSplit(t, body[:api.MaxFrame], 0, api.MaxFrame-1, want, next, api.OK)
}

func TestP9_1WrongMost(t *testing.T) {
	for _, most := range wrongMosts {
		for _, body := range [][]byte{nil, []byte("abcdef")} {
			wantSplit(t, body, 7, most, nil, 0, api.ErrArg)
		}
	}
}

// TestP9_1Long has the longest body, one that is a byte longer, and a wrong most beside it.
func TestP9_1Long(t *testing.T) {
	t.Parallel()
	body := make([]byte, api.MaxPayload+1)
	for _, most := range []int{1, 4, api.MaxFrame} {
		wantSplit(t, body, 7, most, nil, 0, api.ErrLong)
	}
	for _, most := range wrongMosts {
		wantSplit(t, body, 7, most, nil, 0, api.ErrArg)
	}
	body[api.MaxPayload-1] = 9
	got, next, e := packet.Split(body[:api.MaxPayload], 250, api.MaxFrame)
	frames := api.MaxPayload/api.MaxFrame + 1
	if len(got) != api.MaxPayload+4*frames || next != byte(250+frames) || e != api.OK {
		t.Fatalf("Split of %d bytes: %d bytes, %d, %v", api.MaxPayload, len(got), next, e)
	}
	left := api.MaxPayload % api.MaxFrame
	if head := frame(left, byte(250+frames-1), ""); !bytes.Equal(got[len(got)-left-4:len(got)-left], head) || got[len(got)-1] != 9 {
		t.Errorf("the last frame: %s", brief(got[len(got)-left-4:]))
	}
}

func TestP9_2New(t *testing.T) {
	for _, most := range []int{1, 2, 4, api.MaxFrame - 1, api.MaxFrame} {
		for _, limit := range []int{0, 1, 9, api.MaxPayload - 1, api.MaxPayload} {
			wantState(t, fmt.Sprint("new of ", most, ", ", limit), made(t, most, limit), 0, 0, api.OK)
		}
	}
	wrong := func(most, limit int) {
		t.Helper()
		if r, e := packet.New(most, limit); r != nil || e != api.ErrArg {
			t.Errorf("New of %d, %d: %v, %v", most, limit, r, e)
		}
	}
	for _, most := range wrongMosts {
		for _, limit := range append([]int{0, 9, api.MaxPayload}, wrongLimits...) {
			wrong(most, limit)
		}
	}
	for _, limit := range wrongLimits {
		for _, most := range []int{1, 4, api.MaxFrame} {
			wrong(most, limit)
		}
	}
}

// TestP9_2ExpectBetween has readers that are between two payloads: each number may be expected, more than once.
func TestP9_2ExpectBetween(t *testing.T) {
	for _, before := range [][]byte{nil, {}, right(0, ""), right(0, "abc"), bytesOf(right(0, "abcd"), right(1, "")), bytesOf(right(0, "abcd"), right(1, "e"), right(2, "f"))} {
		for x := range 256 {
			seq := byte(x)
			r := made(t, 4, 9)
			if _, e := r.Feed(before); e != api.OK {
				t.Fatalf("Feed of %v: %v", before, e)
			}
			wantExpect(t, "between", r, seq+1, api.OK)
			wantExpect(t, "again", r, seq, api.OK)
			wantState(t, "between", r, seq, 0, api.OK)
			wantFeed(t, r, right(seq, "xy"), api.OK, text(seq, seq+1, "xy"))
			wantState(t, "behind it", r, seq+1, 0, api.OK)
		}
		r := made(t, 4, 9)
		r.Feed(before)
		wantExpect(t, "between", r, 100, api.OK)
		wantFeed(t, r, right(r.Next()+1, "xy"), api.ErrOrder)
	}
}

// TestP9_2ExpectWithin has readers that are within a payload: nothing is changed by what they refuse.
func TestP9_2ExpectWithin(t *testing.T) {
	whole := bytesOf(right(0, "abcd"), right(1, "efgh"), right(2, "i"))
	for n := 1; n < len(whole); n++ {
		want := plainRead(whole[:n], 0, 4, 9)
		r := made(t, 4, 9)
		wantFeed(t, r, whole[:n], api.OK)
		for _, seq := range []byte{0, 1, 2, 3, 7, 255} {
			wantExpect(t, fmt.Sprint("within, at ", n), r, seq, api.ErrBad)
			wantState(t, fmt.Sprint("within, at ", n), r, want.next, want.held, api.OK)
		}
		wantFeed(t, r, whole[n:], api.OK, text(0, 3, "abcdefghi"))
	}
	r := made(t, 4, 9)
	wantFeed(t, r, right(0, "abcd"), api.OK)
	wantExpect(t, "behind a frame of most bytes", r, 1, api.ErrBad)
	wantFeed(t, r, nil, api.OK)
	wantExpect(t, "and nothing more", r, 1, api.ErrBad)
	wantFeed(t, r, right(1, ""), api.OK, text(0, 2, "abcd"))
	wantExpect(t, "behind the last one", r, 9, api.OK)
	wantFeed(t, r, bytesOf(right(9, ""), []byte{0}), api.OK, text(9, 10, ""))
	wantExpect(t, "a byte behind a payload", r, 9, api.ErrBad)
}

// TestP9_3Written feeds one reader with what the chapter names, and looks at it behind each.
func TestP9_3Written(t *testing.T) {
	r := made(t, 4, 9)
	wantFeed(t, r, nil, api.OK)
	wantFeed(t, r, []byte{}, api.OK)
	wantState(t, "nothing", r, 0, 0, api.OK)
	wantFeed(t, r, right(0, ""), api.OK, text(0, 1, ""))
	wantState(t, "an empty payload", r, 1, 0, api.OK)
	wantFeed(t, r, bytesOf(right(1, "abcd"), right(2, "")), api.OK, text(1, 3, "abcd"))
	wantState(t, "an empty last frame", r, 3, 0, api.OK)
	wantFeed(t, r, bytesOf(right(3, "a"), right(4, "bc"), right(5, ""), right(6, "defg"), right(7, "h"), right(8, "i")), api.OK,
		text(3, 4, "a"), text(4, 5, "bc"), text(5, 6, ""), text(6, 8, "defgh"), text(8, 9, "i"))
	wantState(t, "several", r, 9, 0, api.OK)
	wantFeed(t, r, bytesOf(right(9, "abc"), right(10, "abcd")), api.OK, text(9, 10, "abc"))
	wantState(t, "a frame of most bytes", r, 11, 4, api.OK)
	wantFeed(t, r, bytesOf(right(11, "efgh"), []byte{1, 0}), api.OK)
	wantState(t, "two of them, and bytes of a head", r, 12, 10, api.OK)
	wantFeed(t, r, []byte{0, 12}, api.OK)
	wantState(t, "a whole head", r, 12, 12, api.OK)
	wantFeed(t, r, []byte("i"), api.OK, text(10, 13, "abcdefghi"))
	wantState(t, "just the limit", r, 13, 0, api.OK)
	wantFeed(t, r, bytesOf(right(13, "x"), right(13, "y"), right(14, "z")), api.ErrOrder, text(13, 14, "x"))
	wantState(t, "a wrong number", r, 14, 0, api.ErrOrder)
}

// TestP9_3EachCut cuts frames at each place, and at each two, and feeds them byte by byte and with chunks of nothing between.
func TestP9_3EachCut(t *testing.T) {
	streams := [][]byte{
		bytesOf(right(0, "a"), right(1, ""), right(2, "abcd"), right(3, ""), right(4, "abcd"), right(5, "efgh"), right(6, "i"), right(7, "xyz")),
		bytesOf(right(0, ""), right(1, ""), right(2, "")),
		bytesOf(right(0, "ab"), frame(5, 1, "abcde"), right(2, "x")),
		bytesOf(right(0, "ab"), right(2, "ab"), right(1, "x")),
		bytesOf(right(0, "abcd"), right(0, "ab"), right(1, "x")),
		bytesOf(right(0, "abcd"), right(1, "efgh"), right(2, "ij"), right(3, "x")),
		bytesOf(right(0, "abcd"), right(1, "efgh"), right(2, "ijkl"), right(3, "x")),
		bytesOf(right(0, "abcd"), right(1, "efgh")),
		bytesOf(right(0, "abc"), []byte{4, 0}),
		{4, 0, 0, 0, 'a', 'b', 'c'},
	}
	for _, all := range streams {
		wantChunks(t, all, 0, 4, 9)
		wantChunks(t, all, 0, 4, 9, each(all)...)
		for i := range len(all) + 1 {
			for j := i; j <= len(all); j++ {
				wantChunks(t, all, 0, 4, 9, i, j)
			}
		}
	}
}

// TestP9_3AsSoonAs hands in a head's bytes one by one: the error comes with the fourth, and with nothing behind it.
func TestP9_3AsSoonAs(t *testing.T) {
	ahead := bytesOf(right(0, "abcd"), right(1, "e"), right(2, "abcd"))
	for _, x := range []struct {
		head []byte
		e    api.Errno
	}{
		{[]byte{5, 0, 0, 3}, api.ErrBad}, {[]byte{0, 1, 0, 3}, api.ErrBad}, {[]byte{0, 0, 1, 3}, api.ErrBad}, {[]byte{255, 255, 255, 3}, api.ErrBad},
		{[]byte{4, 0, 0, 2}, api.ErrOrder}, {[]byte{4, 0, 0, 4}, api.ErrOrder}, {[]byte{0, 0, 0, 0}, api.ErrOrder}, {[]byte{0, 0, 0, 131}, api.ErrOrder},
		{[]byte{3, 0, 0, 3}, api.ErrLong}, {[]byte{4, 0, 0, 3}, api.ErrLong},
		{[]byte{5, 0, 0, 9}, api.ErrBad}, {[]byte{9, 9, 9, 9}, api.ErrBad}, {[]byte{4, 0, 0, 9}, api.ErrOrder}, {[]byte{3, 0, 0, 255}, api.ErrOrder},
	} {
		r := made(t, 4, 6)
		wantFeed(t, r, ahead, api.OK, text(0, 2, "abcde"))
		for i := range 3 {
			wantFeed(t, r, x.head[i:i+1], api.OK)
			wantState(t, fmt.Sprint(x.head, " up to ", i), r, 3, 5+i, api.OK)
		}
		wantFeed(t, r, x.head[3:], x.e)
		wantState(t, fmt.Sprint(x.head), r, 3, 0, x.e)
		at := len(ahead) + 4
		for _, behind := range []string{"", "x", "xyz", "xyzuvw"} {
			all := bytesOf(ahead, x.head, []byte(behind))
			wantChunks(t, all, 0, 4, 6, at-1)
			wantChunks(t, all, 0, 4, 6, at)
			wantFeed(t, made(t, 4, 6), all, x.e, text(0, 2, "abcde"))
		}
	}
}

// TestP9_3FirstHead has the same errors in the first frame of all.
func TestP9_3FirstHead(t *testing.T) {
	for _, x := range []struct {
		seq, got byte
		length   int
		limit    int
		e        api.Errno
	}{
		{0, 0, 5, 9, api.ErrBad}, {0, 0, 4, 9, api.OK}, {0, 1, 4, 9, api.ErrOrder}, {0, 255, 0, 9, api.ErrOrder}, {255, 0, 1, 9, api.ErrOrder},
		{255, 255, 1, 9, api.OK}, {7, 8, 3, 9, api.ErrOrder}, {7, 6, 3, 9, api.ErrOrder}, {0, 0, 4, 3, api.ErrLong}, {0, 0, 3, 3, api.OK},
		{0, 0, 1, 0, api.ErrLong}, {0, 0, 5, 0, api.ErrBad}, {0, 1, 5, 9, api.ErrBad}, {0, 1, 5, 0, api.ErrBad}, {0, 1, 4, 0, api.ErrOrder},
	} {
		r := made(t, 4, x.limit)
		wantExpect(t, "new", r, x.seq, api.OK)
		head := frame(x.length, x.got, "")
		wantFeed(t, r, head[:3], api.OK)
		wantState(t, fmt.Sprint(head[:3]), r, x.seq, 3, api.OK)
		wantFeed(t, r, head[3:], x.e)
		if x.e != api.OK {
			wantState(t, fmt.Sprint(head), r, x.seq, 0, x.e)
		} else {
			wantState(t, fmt.Sprint(head), r, x.seq, 4, api.OK)
		}
	}
}

// TestP9_3Limits has payloads of just limit bytes, one less and one more, limits at a frame's end among them.
func TestP9_3Limits(t *testing.T) {
	for _, most := range []int{1, 2, 3, 4, 7, api.MaxFrame} {
		for limit := range 14 {
			for _, n := range []int{limit - 1, limit, limit + 1, limit + 2, limit + most} {
				if n < 0 || n > 100 {
					continue
				}
				all, _ := plainSplit(noise(n), 250, most)
				r := made(t, most, limit)
				wantExpect(t, "new", r, 250, api.OK)
				got, e := r.Feed(all)
				if n <= limit && (e != api.OK || len(got) != 1 || !bytes.Equal(got[0].Body, noise(n))) {
					t.Errorf("%d bytes, most %d, limit %d: %s, %v", n, most, limit, briefly(got), e)
				}
				if n > limit && (e != api.ErrLong || len(got) != 0) {
					t.Errorf("%d bytes, most %d, limit %d: %s, %v", n, most, limit, briefly(got), e)
				}
				wantChunks(t, all, 250, most, limit)
				wantChunks(t, all, 250, most, limit, each(all)...)
			}
		}
	}
}

// TestP9_3LimitAnew has several payloads that together are far above the limit: it holds for each of them alone.
func TestP9_3LimitAnew(t *testing.T) {
	r, seq := made(t, 4, 9), byte(0)
	for range 200 {
		all, next := plainSplit([]byte("abcdefghi"), seq, 4)
		wantFeed(t, r, all, api.OK, text(seq, next, "abcdefghi"))
		seq = next
	}
}

// TestP9_3WrapsRound reads payloads, and one of more frames than there are numbers.
func TestP9_3WrapsRound(t *testing.T) {
	r := made(t, 1, 2000)
	wantExpect(t, "new", r, 254, api.OK)
	wantFeed(t, r, bytesOf(right(254, ""), right(255, ""), right(0, "")), api.OK, text(254, 255, ""), text(255, 0, ""), text(0, 1, ""))
	wantExpect(t, "between", r, 255, api.OK)
	wantFeed(t, r, bytesOf(right(255, "a"), right(0, "b"), right(1, "")), api.OK, text(255, 2, "ab"))
	for _, n := range []int{253, 254, 255, 256, 257, 511, 512, 1500} {
		for _, seq := range []byte{0, 3, 255} {
			wantExpect(t, "between", r, seq, api.OK)
			all, next := plainSplit(noise(n), seq, 1)
			wantFeed(t, r, all, api.OK, api.Packet{Seq: seq, Next: next, Body: noise(n)})
			wantState(t, fmt.Sprint("behind ", n), r, next, 0, api.OK)
		}
	}
}

// TestP9_3Wire has frames of the greatest most, byte by byte, which must not take much longer than at once.
func TestP9_3Wire(t *testing.T) {
	t.Parallel()
	body := noise(api.MaxFrame + 3)
	for _, n := range []int{api.MaxFrame - 1, api.MaxFrame, api.MaxFrame + 3} {
		all, next := plainSplit(body[:n], 255, api.MaxFrame)
		r := made(t, api.MaxFrame, n)
		wantExpect(t, "new", r, 255, api.OK)
		for i := range len(all) - 1 {
			if got, e := r.Feed(all[i : i+1]); len(got) != 0 || e != api.OK {
				t.Fatalf("the byte %d of %d: %s, %v", i, len(all), briefly(got), e)
			}
		}
		wantFeed(t, r, all[len(all)-1:], api.OK, api.Packet{Seq: 255, Next: next, Body: body[:n]})
		wantState(t, "behind it", r, next, 0, api.OK)
		whole := made(t, api.MaxFrame, n)
		wantExpect(t, "new", whole, 255, api.OK)
		wantFeed(t, whole, all, api.OK, api.Packet{Seq: 255, Next: next, Body: body[:n]})
		short := made(t, api.MaxFrame, n-1)
		wantExpect(t, "new", short, 255, api.OK)
		wantFeed(t, short, all, api.ErrLong)
	}
}

// TestP9_4BehindAnError asks readers that stopped, each by another error: nothing moves them any more.
func TestP9_4BehindAnError(t *testing.T) {
	for _, x := range []struct {
		b    []byte
		e    api.Errno
		next byte
	}{
		{[]byte{5, 0, 0, 0}, api.ErrBad, 0},
		{[]byte{1, 0, 0, 1}, api.ErrOrder, 0},
		{bytesOf(right(0, "abcd"), right(1, "efgh"), frame(2, 2, "")), api.ErrLong, 2},
		{bytesOf(right(0, "abcd"), frame(5, 1, "abcde")), api.ErrBad, 1},
		{bytesOf(right(0, "abcd"), right(2, "a")), api.ErrOrder, 1},
		{bytesOf(right(0, "abc"), right(1, "d"), right(3, "a")), api.ErrOrder, 2},
	} {
		r := made(t, 4, 9)
		if _, e := r.Feed(x.b); e != x.e {
			t.Errorf("Feed of %v: %v, want %v", x.b, e, x.e)
		}
		for _, b := range [][]byte{nil, {}, {0}, right(0, ""), right(x.next, ""), right(x.next, "ab"), right(x.next+1, "ab"), {9, 9, 9, 9}} {
			wantState(t, "stopped", r, x.next, 0, x.e)
			wantFeed(t, r, b, api.ErrOver)
			wantExpect(t, "stopped", r, x.next+5, api.ErrOver)
			wantExpect(t, "stopped", r, 0, api.ErrOver)
			wantState(t, "stopped", r, x.next, 0, x.e)
		}
	}
}

// TestP9_4NotMade has readers that New did not make: they are none, and stay none.
func TestP9_4NotMade(t *testing.T) {
	var nobody *packet.Reader
	emptied := made(t, 4, 9)
	emptied.Feed([]byte{2, 0, 0, 0, 'a'})
	*emptied = packet.Reader{}
	for name, r := range map[string]*packet.Reader{"nil": nobody, "zero": {}, "new": new(packet.Reader), "emptied": emptied} {
		for _, b := range [][]byte{nil, {}, {0}, right(0, ""), right(0, "ab"), {9, 9, 9, 9}} {
			wantFeed(t, r, b, api.ErrNil)
			wantExpect(t, name, r, 0, api.ErrNil)
			wantExpect(t, name, r, 7, api.ErrNil)
			wantState(t, name, r, 0, 0, api.ErrNil)
		}
	}
}

// TestP9_4InTurn feeds readers in turn: each goes by its own bytes.
func TestP9_4InTurn(t *testing.T) {
	streams := [][]byte{
		bytesOf(right(0, "abcd"), right(1, "e"), right(2, "f")), bytesOf(right(0, "ABCD"), right(1, "EFGH"), right(2, "")),
		bytesOf(right(0, "xy"), right(1, "zxyz"), right(3, "")), bytesOf(right(0, "1"), frame(7, 1, "1234567")),
	}
	readers := make([]*packet.Reader, len(streams))
	got := make([][]api.Packet, len(streams))
	for i := range streams {
		readers[i] = made(t, 4, 9)
	}
	for at := range 24 {
		for i, all := range streams {
			l, _ := readers[i].Feed(all[min(at, len(all)):min(at+1, len(all))])
			got[i] = append(got[i], l...)
			want := plainRead(all[:min(at+1, len(all))], 0, 4, 9)
			wantPackets(t, fmt.Sprint("the reader ", i), got[i], want.packets())
			wantState(t, fmt.Sprint("the reader ", i), readers[i], want.next, want.held, want.stopped)
		}
	}
}

func TestP9_5Written(t *testing.T) {
	wantJoin(t, nil, 4, 9, 0, api.OK)
	wantJoin(t, []byte{}, 4, 9, 0, api.OK)
	wantJoin(t, right(0, ""), 4, 9, 4, api.OK, text(0, 1, ""))
	wantJoin(t, right(200, "ab"), 4, 9, 6, api.OK, text(200, 201, "ab"))
	wantJoin(t, bytesOf(right(254, "abcd"), right(255, ""), right(0, "x")), 4, 9, 17, api.OK, text(254, 0, "abcd"), text(0, 1, "x"))
	wantJoin(t, bytesOf(right(9, "a"), right(10, "abcd"), right(11, "efgh"), right(12, "i")), 4, 9, 26, api.OK, text(9, 10, "a"), text(10, 13, "abcdefghi"))
	for n := 1; n < 4; n++ {
		wantJoin(t, []byte{1, 0, 0}[:n], 4, 9, 0, api.ErrShort)
		wantJoin(t, bytesOf(right(3, "ab"), []byte{1, 0, 0}[:n]), 4, 9, 6, api.ErrShort, text(3, 4, "ab"))
	}
	wantJoin(t, []byte{9, 9, 9}, 4, 9, 0, api.ErrShort)
	wantJoin(t, []byte{2, 0, 0, 77}, 4, 9, 0, api.ErrShort)
	wantJoin(t, []byte{2, 0, 0, 77, 'a'}, 4, 9, 0, api.ErrShort)
	wantJoin(t, right(77, "abcd"), 4, 9, 0, api.ErrShort)
	wantJoin(t, bytesOf(right(3, "ab"), right(4, "abcd")), 4, 9, 6, api.ErrShort, text(3, 4, "ab"))
	wantJoin(t, bytesOf(right(3, "ab"), right(4, "abcd"), []byte{1, 0, 0, 5}), 4, 9, 6, api.ErrShort, text(3, 4, "ab"))
	wantJoin(t, bytesOf(right(3, "ab"), right(3, "c"), right(4, "d")), 4, 9, 6, api.ErrOrder, text(3, 4, "ab"))
	wantJoin(t, bytesOf(right(3, "abcd"), right(5, "c")), 4, 9, 0, api.ErrOrder)
	wantJoin(t, bytesOf(right(3, "ab"), right(4, ""), frame(5, 5, "abcde")), 4, 9, 10, api.ErrBad, text(3, 4, "ab"), text(4, 5, ""))
	wantJoin(t, bytesOf(right(3, "ab"), right(4, "abcd"), right(5, "efgh"), right(6, "ij")), 4, 9, 6, api.ErrLong, text(3, 4, "ab"))
	wantJoin(t, frame(5, 8, ""), 4, 9, 0, api.ErrBad)
	wantJoin(t, frame(4, 8, ""), 4, 3, 0, api.ErrLong)
	wantJoin(t, right(8, ""), 4, 0, 4, api.OK, text(8, 9, ""))
}

// TestP9_5FirstNumber has each number in front: it is expected, and the ones behind it are held against it.
func TestP9_5FirstNumber(t *testing.T) {
	for x := range 256 {
		seq := byte(x)
		wantJoin(t, bytesOf(right(seq, "abcd"), right(seq+1, "e"), right(seq+2, "")), 4, 9, 17, api.OK, text(seq, seq+2, "abcde"), text(seq+2, seq+3, ""))
		wantJoin(t, bytesOf(right(seq, "abcd"), right(seq, "e")), 4, 9, 0, api.ErrOrder)
		wantJoin(t, bytesOf(right(seq, "a"), right(seq+2, "e")), 4, 9, 5, api.ErrOrder, text(seq, seq+1, "a"))
	}
}

func TestP9_5NewsErrors(t *testing.T) {
	for _, b := range [][]byte{nil, right(0, "a"), bytesOf(right(0, "a"), []byte{1}), {9, 9, 9, 9}} {
		for _, most := range wrongMosts {
			wantJoin(t, b, most, 9, 0, api.ErrArg)
			wantJoin(t, b, most, -1, 0, api.ErrArg)
		}
		for _, limit := range wrongLimits {
			wantJoin(t, b, 4, limit, 0, api.ErrArg)
		}
	}
	for _, most := range []int{1, api.MaxFrame} {
		for _, limit := range []int{0, api.MaxPayload} {
			wantJoin(t, right(5, ""), most, limit, 4, api.OK, text(5, 6, ""))
		}
	}
}

// wantPlainJoin holds Join against a plain reading of the same bytes.
func wantPlainJoin(t *testing.T, all []byte, most, limit int) {
	t.Helper()
	var seq byte
	if len(all) >= 4 {
		seq = all[3]
	}
	want := plainRead(all, seq, most, limit)
	e := want.stopped
	if e == api.OK && want.size() < len(all) {
		e = api.ErrShort
	}
	wantJoin(t, all, most, limit, want.size(), e, want.packets()...)
}

// TestP9_6AllShort has all streams of up to nine bytes out of three, at once and byte by byte.
func TestP9_6AllShort(t *testing.T) {
	t.Parallel()
	var grow func(all []byte, most, limit int)
	grow = func(all []byte, most, limit int) {
		wantChunks(t, all, 0, most, limit)
		wantChunks(t, all, 0, most, limit, each(all)...)
		wantPlainJoin(t, all, most, limit)
		if len(all) == 9 || t.Failed() {
			return
		}
		for x := range byte(3) {
			grow(append(slices.Clone(all), x), most, limit)
		}
	}
	for most := 1; most <= 2; most++ {
		for limit := range 3 {
			grow(nil, most, limit)
		}
	}
}

// TestP9_6AllFrames has all rows of up to four frames, right ones and wrong ones, with a cut at each place of the last two.
func TestP9_6AllFrames(t *testing.T) {
	t.Parallel()
	const most, limit = 2, 5
	var grow func(all []byte, next byte, left int)
	grow = func(all []byte, next byte, left int) {
		wantPlainJoin(t, all, most, limit)
		for i := max(0, len(all)-12); i <= len(all); i++ {
			wantChunks(t, all, 254, most, limit, i)
		}
		wantChunks(t, all, 254, most, limit, each(all)...)
		if left == 0 || t.Failed() {
			return
		}
		for length := range most + 2 {
			for _, seq := range []byte{next, next + 1} {
				grow(bytesOf(all, right(seq, strings.Repeat("x", length))), next+1, left-1)
			}
		}
	}
	grow(nil, 254, 4)
}

// drawnStream is frames of drawn payloads, now and then spoilt or cut off.
func drawnStream(r *rand.Rand, seq byte, most, limit int) []byte {
	var all []byte
	for range r.Intn(6) {
		body := make([]byte, r.Intn(limit+1))
		if r.Intn(12) == 0 {
			body = make([]byte, limit+1+r.Intn(3))
		}
		r.Read(body)
		frames, next := plainSplit(body, seq, most)
		all, seq = append(all, frames...), next
	}
	if len(all) > 0 && r.Intn(3) == 0 {
		all[r.Intn(len(all))] = byte(r.Intn(256))
	}
	if r.Intn(3) == 0 {
		all = all[:r.Intn(len(all)+1)]
	}
	return all
}

func TestP9_6Drawn(t *testing.T) {
	t.Parallel()
	r := rand.New(rand.NewSource(9))
	for range 20000 {
		most, limit, seq := 1+r.Intn(12), r.Intn(40), byte(r.Intn(256))
		all := drawnStream(r, seq, most, limit)
		var cuts []int
		for range r.Intn(10) {
			cuts = append(cuts, r.Intn(len(all)+1))
		}
		slices.Sort(cuts)
		wantChunks(t, all, seq, most, limit, cuts...)
		wantPlainJoin(t, all, most, limit)
		if t.Failed() {
			return
		}
	}
}

// TestP9_6AnyBytes has bytes that are frames by chance only.
func TestP9_6AnyBytes(t *testing.T) {
	t.Parallel()
	r := rand.New(rand.NewSource(10))
	for range 20000 {
		all := make([]byte, r.Intn(60))
		for i := range all {
			all[i] = byte([]int{0, 0, 0, r.Intn(4), r.Intn(256)}[r.Intn(5)])
		}
		most := []int{1, 2, 3, 4, 1000, api.MaxFrame}[r.Intn(6)]
		limit := []int{0, 1, 5, 1000, api.MaxPayload}[r.Intn(5)]
		cut := r.Intn(len(all) + 1)
		wantChunks(t, all, 0, most, limit, cut)
		wantChunks(t, all, 0, most, limit, each(all)...)
		wantPlainJoin(t, all, most, limit)
	}
}

func TestP9_6JoinOfSplit(t *testing.T) {
	for _, most := range []int{1, 2, 3, 4, 9, 255, 256, 1000, api.MaxFrame - 1, api.MaxFrame} {
		for _, n := range []int{0, 1, 2, 3, 4, 5, 8, 9, 254, 255, 256, 257, 512, 999, 1000, 1001, 3000} {
			for _, seq := range []byte{0, 1, 254, 255} {
				body := noise(n)
				all, next, e := packet.Split(body, seq, most)
				if e != api.OK {
					t.Fatalf("Split of %d bytes by %d: %v", n, most, e)
				}
				for _, limit := range []int{n, n + 1, api.MaxPayload} {
					wantJoin(t, all, most, limit, len(all), api.OK, api.Packet{Seq: seq, Next: next, Body: body})
				}
				if n > 0 {
					wantJoin(t, all, most, n-1, 0, api.ErrLong)
				}
			}
		}
	}
}

// TestP9_6JoinOfSplits joins several payloads, each split from the number behind the one ahead of it.
func TestP9_6JoinOfSplits(t *testing.T) {
	for _, most := range []int{1, 3, 4, 100} {
		var all []byte
		var want []api.Packet
		seq := byte(250)
		for n := range 30 {
			frames, next, _ := packet.Split(noise(n), seq, most)
			all = append(all, frames...)
			want = append(want, api.Packet{Seq: seq, Next: next, Body: noise(n)})
			seq = next
		}
		wantJoin(t, all, most, 29, len(all), api.OK, want...)
		wantJoin(t, append(all, 0), most, 29, len(all), api.ErrShort, want...)
	}
}

// TestP9_6HeldAtMost has the most that a reader can hold: all of a payload but the last byte, or all and bytes of a head.
func TestP9_6HeldAtMost(t *testing.T) {
	r := made(t, 4, 8)
	wantFeed(t, r, bytesOf(right(0, "abcd"), right(1, "efgh"), []byte{0, 0, 0}), api.OK)
	wantState(t, "bytes of the last head", r, 2, 11, api.OK)
	wantFeed(t, r, []byte{2}, api.OK, text(0, 3, "abcdefgh"))
	r = made(t, 4, 7)
	wantFeed(t, r, bytesOf(right(0, "abcd"), frame(3, 1, "ef")), api.OK)
	wantState(t, "all but the last byte", r, 1, 10, api.OK)
	wantFeed(t, r, []byte("g"), api.OK, text(0, 2, "abcdefg"))
	r = made(t, 4, 0)
	wantFeed(t, r, []byte{0, 0, 0}, api.OK)
	wantState(t, "a limit of nothing", r, 0, 3, api.OK)
}

// TestKeepsLittle has readers that read much and hold little: what was told, or came ahead of an error, is not kept beside it.
func TestKeepsLittle(t *testing.T) {
	const many = 64
	chunk := bytes.Repeat(right(0, string(noise(1000))), 2000)
	for i := range 2000 {
		chunk[i*1004+3] = byte(i)
	}
	for name, end := range map[string][]byte{"holding a byte": {1}, "stopped": {0, 0, 0, 7}} {
		var before, after runtime.MemStats
		runtime.GC()
		runtime.ReadMemStats(&before)
		readers := make([]*packet.Reader, many)
		for i := range readers {
			readers[i] = made(t, 4096, 1<<20)
			if got, _ := readers[i].Feed(bytesOf(chunk, end)); len(got) != 2000 {
				t.Fatalf("%s: %d payloads", name, len(got))
			}
		}
		runtime.GC()
		runtime.ReadMemStats(&after)
		if kept := int64(after.HeapAlloc) - int64(before.HeapAlloc); kept > many*int64(len(chunk))/8 {
			t.Errorf("%s: %d readers keep %d bytes", name, many, kept)
		}
		runtime.KeepAlive(readers)
	}
}

// spoil changes bytes, and those in the room behind them.
func spoil(b []byte) {
	for i := range b[:cap(b)] {
		b[:cap(b)][i] ^= 255
	}
}

// TestWhatIsHandedInStays looks at the bytes that were handed in, and at the room behind them, and changes both behind the call.
func TestWhatIsHandedInStays(t *testing.T) {
	all := bytesOf(right(0, "ab"), right(1, "abcd"), right(2, "efgh"), right(3, "i"), right(4, "xyz"))
	want := plainRead(all, 0, 4, 9).packets()
	for n := range len(all) + 1 {
		room := slices.Clone(all)
		r := made(t, 4, 9)
		got, _ := r.Feed(room[:n])
		joined, _, _ := packet.Join(room[:n], 4, 9)
		frames, next, _ := packet.Split(room[:n], 255, 4)
		if !bytes.Equal(room, all) {
			t.Fatalf("%d bytes were changed: %v", n, room)
		}
		held := r.Held()
		spoil(room)
		if r.Held() != held {
			t.Errorf("Held was %d, is %d", held, r.Held())
		}
		wantPackets(t, "Join", joined, plainRead(all[:n], 0, 4, 9).packets())
		if split, wantNext := plainSplit(all[:n], 255, 4); !bytes.Equal(frames, split) || next != wantNext {
			t.Errorf("Split of %v changed with what was handed in: %v", all[:n], frames)
		}
		more := slices.Clone(all[n:])
		rest, e := r.Feed(more)
		spoil(more)
		wantPackets(t, fmt.Sprint("cut at ", n), append(got, rest...), want)
		if e != api.OK {
			t.Errorf("cut at %d: %v", n, e)
		}
	}
}

// TestOneBuffer feeds out of one buffer that is written anew for each chunk, as one that reads a wire does.
func TestOneBuffer(t *testing.T) {
	var all []byte
	var seq byte
	for n := range 40 {
		frames, next := plainSplit(noise(n), seq, 4)
		all, seq = append(all, frames...), next
	}
	for _, size := range []int{1, 2, 3, 4, 5, 7, 16, 100} {
		r, buffer := made(t, 4, 39), make([]byte, size)
		var got []api.Packet
		for chunk := range slices.Chunk(all, size) {
			l, e := r.Feed(buffer[:copy(buffer, chunk)])
			if e != api.OK {
				t.Fatalf("a buffer of %d: %v", size, e)
			}
			got = append(got, l...)
		}
		wantPackets(t, fmt.Sprint("a buffer of ", size), got, plainRead(all, 0, 4, 39).packets())
	}
}

// spoilPackets changes all that an answer has, its spare room too.
func spoilPackets(l []api.Packet) {
	for _, p := range l {
		spoil(p.Body)
	}
	l = l[:cap(l)]
	for i := range l {
		l[i] = api.Packet{Seq: 99, Next: 99, Body: []byte("spoilt")}
	}
}

// TestAnswersAreNew spoils each answer as soon as it is there: what comes later is told as it should be.
func TestAnswersAreNew(t *testing.T) {
	var all []byte
	var seq byte
	for n := range 30 {
		frames, next := plainSplit(noise(n%13), seq, 4)
		all, seq = append(all, frames...), next
	}
	want := plainRead(all, 0, 4, 12).packets()
	for _, size := range []int{1, 2, 3, 5, 9, 30, 64, 100, 1000} {
		r := made(t, 4, 12)
		n := 0
		for chunk := range slices.Chunk(all, size) {
			got, _ := r.Feed(chunk)
			wantPackets(t, fmt.Sprint("chunks of ", size), got, want[n:n+len(got)])
			n += len(got)
			spoilPackets(got)
		}
		wantState(t, fmt.Sprint("chunks of ", size), r, want[len(want)-1].Next, 0, api.OK)
	}
	kept := slices.Clone(all)
	first, _, _ := packet.Join(all, 4, 12)
	second, _, _ := packet.Join(all, 4, 12)
	spoilPackets(first)
	wantPackets(t, "the second Join", second, want)
	one, _, _ := packet.Split(all, 0, 4)
	two, _, _ := packet.Split(all, 0, 4)
	spoil(one)
	if split, _ := plainSplit(kept, 0, 4); !bytes.Equal(two, split) || !bytes.Equal(all, kept) {
		t.Error("answers of Split share bytes, or have those that were handed in")
	}
}

// TestBodiesAreApart spoils one payload of an answer, and looks at the others of it.
func TestBodiesAreApart(t *testing.T) {
	all := bytesOf(right(0, "ab"), right(1, ""), right(2, "abcd"), right(3, "e"), right(4, "xyz"), right(5, "abcd"), right(6, ""))
	want := plainRead(all, 0, 4, 9).packets()
	for i := range want {
		fed, _ := made(t, 4, 9).Feed(all)
		joined, _, _ := packet.Join(all, 4, 9)
		for _, got := range [][]api.Packet{fed, joined} {
			if len(got) != len(want) {
				t.Fatalf("%s", briefly(got))
			}
			spoil(got[i].Body)
			wantPackets(t, fmt.Sprint("ahead of ", i), got[:i], want[:i])
			wantPackets(t, fmt.Sprint("behind ", i), got[i+1:], want[i+1:])
		}
	}
}

// TestTwoReadersApart has readers that were handed the same bytes, and answers of one that are spoilt.
func TestTwoReadersApart(t *testing.T) {
	all := bytesOf(right(0, "abcd"), right(1, "ef"), right(2, "gh"))
	for n := range len(all) + 1 {
		x, y := made(t, 4, 9), made(t, 4, 9)
		lx, _ := x.Feed(all[:n])
		ly, _ := y.Feed(all[:n])
		spoilPackets(lx)
		lx, _ = x.Feed(all[n:])
		rest, _ := y.Feed(all[n:])
		spoilPackets(lx)
		wantPackets(t, fmt.Sprint("cut at ", n), append(ly, rest...), plainRead(all, 0, 4, 9).packets())
	}
}
