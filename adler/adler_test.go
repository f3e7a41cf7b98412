package adler_test

import (
	"bytes"
	"hash/adler32"
	"math"
	"math/big"
	"strings"
	"testing"

	"sluicegate/adler"
	"sluicegate/api"
)

const modulus = 65521

// edges are halves of sums; those above 65,520 are none.
var edges = []uint32{0, 1, 2, 255, 256, 32768, 65519, 65520}

var wrongHalves = []uint32{65521, 65522, 65534, 65535}

// counts are greater than, less than and just as great as the modulus and its multiples, up to the greatest int.
var counts = []int{1, 2, 3, 255, 65520, 65521, 65522, 65535, 65536, 131041, 131042, 131043, 1 << 20, math.MaxInt32, math.MaxInt - 1, math.MaxInt}

func sumOf(high, low uint32) uint32 {
	return high<<16 | low
}

// plain is the chapter's words, done with numbers that never overflow: halves begin at low and high, one remainder at the end.
func plain(low, high uint64, b []byte) uint32 {
	for _, x := range b {
		low += uint64(x)
		high += low
	}
	return sumOf(uint32(high%modulus), uint32(low%modulus))
}

func texts() [][]byte {
	all := make([]byte, 256)
	for i := range all {
		all[i] = byte(i)
	}
	return [][]byte{
		nil, {}, {0}, {1}, {255}, {0, 0}, {0, 255}, {255, 0}, []byte("a"), []byte("Wikipedia"), all,
		bytes.Repeat([]byte{0}, 65520), bytes.Repeat([]byte{0}, 65521), bytes.Repeat([]byte{0}, 65522),
		bytes.Repeat([]byte{1}, 65519), bytes.Repeat([]byte{1}, 65520), bytes.Repeat([]byte{1}, 65521),
		bytes.Repeat([]byte{255}, 256), bytes.Repeat([]byte{255}, 257), bytes.Repeat([]byte{255}, 258),
		bytes.Repeat([]byte{255}, 5552), bytes.Repeat([]byte{255}, 5553), bytes.Repeat([]byte{255}, 6000),
		bytes.Repeat([]byte{255}, 200000), bytes.Repeat(all, 700), []byte(strings.Repeat("a window, ", 20000)),
	}
}

func wantSum(t *testing.T, b []byte, want uint32) {
	t.Helper()
	if got := adler.Sum(b); got != want {
		t.Errorf("Sum of %d bytes %.20q: %d, not %d", len(b), b, got, want)
	}
}

func wantMore(t *testing.T, sum uint32, b []byte, want uint32) {
	t.Helper()
	if got := adler.More(sum, b); got != want {
		t.Errorf("More(%#x, %d bytes %.20q): %#x, not %#x", sum, len(b), b, got, want)
	}
}

func wantJoined(t *testing.T, a, b uint32, n int, want uint32, wantErr api.Errno) {
	t.Helper()
	if got, e := adler.Joined(a, b, n); got != want || e != wantErr {
		t.Errorf("Joined(%#x, %#x, %d): %#x %d, not %#x %d", a, b, n, got, e, want, wantErr)
	}
}

func wantRolled(t *testing.T, sum uint32, out, in byte, n int, want uint32, wantErr api.Errno) {
	t.Helper()
	if got, e := adler.Rolled(sum, out, in, n); got != want || e != wantErr {
		t.Errorf("Rolled(%#x, %d, %d, %d): %#x %d, not %#x %d", sum, out, in, n, got, e, want, wantErr)
	}
}

// remainder answers x modulo 65,521, from 0 on, with x of any size.
func remainder(x *big.Int) uint32 {
	return uint32(new(big.Int).Mod(x, big.NewInt(modulus)).Uint64())
}

func product(factors ...int64) *big.Int {
	p := big.NewInt(1)
	for _, f := range factors {
		p.Mul(p, big.NewInt(f))
	}
	return p
}

// sumOfMany is the sum of n bytes x behind bytes with the halves low and high, told without making them:
// each of the n lows has low in it, and x once more than the one ahead of it.
func sumOfMany(low, high uint32, x byte, n int) uint32 {
	triangle := product(int64(n), int64(x))
	triangle.Mul(triangle, new(big.Int).Add(big.NewInt(int64(n)), big.NewInt(1)))
	triangle.Rsh(triangle, 1)
	newHigh := triangle.Add(triangle, product(int64(n), int64(low)))
	newHigh.Add(newHigh, big.NewInt(int64(high)))
	newLow := product(int64(n), int64(x))
	newLow.Add(newLow, big.NewInt(int64(low)))
	return sumOf(remainder(newHigh), remainder(newLow))
}

// TestP2_1Sum: numbers that are told by the chapter or worked out by hand.
func TestP2_1Sum(t *testing.T) {
	wantSum(t, nil, 1)
	wantSum(t, []byte{}, 1)
	wantSum(t, []byte{0}, sumOf(1, 1))
	wantSum(t, []byte{255}, sumOf(256, 256))
	wantSum(t, []byte("a"), sumOf(98, 98))
	wantSum(t, []byte("ab"), sumOf(98+196, 196))
	wantSum(t, []byte("ba"), sumOf(99+196, 196))
	wantSum(t, []byte("Wikipedia"), 300286872)
	wantSum(t, bytes.Repeat([]byte{255}, 6000), 2761382378)
	wantSum(t, make([]byte, 65520), sumOf(65520, 1))
	wantSum(t, make([]byte, 65521), sumOf(0, 1))
	wantSum(t, make([]byte, 65522), sumOf(1, 1))
	// A low of 65,520, of 65,521 (which is 0), and of 65,522.
	low := bytes.Repeat([]byte{255}, 256)
	wantSum(t, append(low, 239), plain(1, 0, append(low, 239)))
	for last := byte(238); last < 242; last++ {
		if got := adler.Sum(append(low, last)) & 0xffff; got != (65281+uint32(last))%modulus {
			t.Errorf("low of Sum with %d at the end: %d", last, got)
		}
	}
}

// TestP2_1SumAsOthers: the library's own sum, and the chapter's words done plainly.
func TestP2_1SumAsOthers(t *testing.T) {
	for _, b := range texts() {
		wantSum(t, b, adler32.Checksum(b))
		wantSum(t, b, plain(1, 0, b))
	}
	many := bytes.Repeat([]byte{255}, 1<<24)
	wantSum(t, many, adler32.Checksum(many))
}

// TestP2_1More: all halves at the edges, ahead of all texts.
func TestP2_1More(t *testing.T) {
	for _, b := range texts() {
		if len(b) > 70000 {
			continue
		}
		for _, low := range edges {
			for _, high := range edges {
				wantMore(t, sumOf(high, low), b, plain(uint64(low), uint64(high), b))
			}
		}
	}
	wantMore(t, sumOf(0, 0), nil, 0)
	wantMore(t, sumOf(65520, 65520), nil, sumOf(65520, 65520))
	wantMore(t, sumOf(65520, 65520), []byte{1}, sumOf(65520, 0))
	wantMore(t, sumOf(65520, 65520), []byte{2}, sumOf(0, 1))
}

// TestP2_1MoreTakesRemainders: halves of 65,521 and above are taken modulo that, with and without bytes behind them.
func TestP2_1MoreTakesRemainders(t *testing.T) {
	for _, wrong := range wrongHalves {
		wantMore(t, sumOf(0, wrong), nil, sumOf(0, wrong-modulus))
		wantMore(t, sumOf(wrong, 0), nil, sumOf(wrong-modulus, 0))
		wantMore(t, sumOf(wrong, wrong), []byte{}, sumOf(wrong-modulus, wrong-modulus))
		for _, b := range texts() {
			wantMore(t, sumOf(wrong, wrong), b, adler.More(sumOf(wrong-modulus, wrong-modulus), b))
			wantMore(t, sumOf(7, wrong), b, plain(uint64(wrong), 7, b))
			wantMore(t, sumOf(wrong, 7), b, plain(7, uint64(wrong), b))
		}
	}
	wantMore(t, math.MaxUint32, nil, sumOf(14, 14))
}

// TestP2_2Joined: what More tells of a and the further bytes, from all halves at the edges on.
func TestP2_2Joined(t *testing.T) {
	wantJoined(t, adler.Sum([]byte("Wiki")), adler.Sum([]byte("pedia")), 5, 300286872, api.OK)
	for _, b := range texts() {
		for _, low := range edges {
			for _, high := range edges {
				a := sumOf(high, low)
				wantJoined(t, a, adler32.Checksum(b), len(b), plain(uint64(low), uint64(high), b), api.OK)
			}
		}
	}
}

// TestP2_2JoinedNothing: no bytes ahead, behind, or both.
func TestP2_2JoinedNothing(t *testing.T) {
	wantJoined(t, 1, 1, 0, 1, api.OK)
	for _, b := range texts() {
		wantJoined(t, adler32.Checksum(b), 1, 0, adler32.Checksum(b), api.OK)
		wantJoined(t, 1, adler32.Checksum(b), len(b), adler32.Checksum(b), api.OK)
	}
	wantJoined(t, sumOf(65520, 65520), 1, 0, sumOf(65520, 65520), api.OK)
	wantJoined(t, 0, 1, 0, 0, api.OK)
}

// TestP2_2JoinedFarMore: more bytes than could be made, up to the greatest int.
func TestP2_2JoinedFarMore(t *testing.T) {
	for _, n := range counts {
		for _, x := range []byte{0, 1, 254, 255} {
			b := sumOfMany(1, 0, x, n)
			for _, low := range edges {
				wantJoined(t, sumOf(65520, low), b, n, sumOfMany(low, 65520, x, n), api.OK)
				wantJoined(t, sumOf(0, low), b, n, sumOfMany(low, 0, x, n), api.OK)
			}
		}
	}
}

// TestP2_2JoinedRefuses: each half in turn, and n, alone and together.
func TestP2_2JoinedRefuses(t *testing.T) {
	for _, n := range []int{-1, -2, -65521, math.MinInt32, math.MinInt} {
		wantJoined(t, 1, 1, n, 0, api.ErrArg)
		wantJoined(t, sumOf(65520, 65520), sumOf(65520, 65520), n, 0, api.ErrArg)
		wantJoined(t, math.MaxUint32, math.MaxUint32, n, 0, api.ErrArg)
	}
	for _, wrong := range wrongHalves {
		for _, n := range []int{0, 1, 65521, math.MaxInt} {
			wantJoined(t, sumOf(0, wrong), 1, n, 0, api.ErrArg)
			wantJoined(t, sumOf(wrong, 1), 1, n, 0, api.ErrArg)
			wantJoined(t, 1, sumOf(0, wrong), n, 0, api.ErrArg)
			wantJoined(t, 1, sumOf(wrong, 1), n, 0, api.ErrArg)
		}
	}
	if _, e := adler.Joined(sumOf(65520, 65520), sumOf(65520, 65520), 1); e != api.OK {
		t.Errorf("Joined of halves of 65,520: %d", e)
	}
}

// TestP2_3Rolled: windows of one, two and more bytes, with the least and the greatest bytes going out and in.
func TestP2_3Rolled(t *testing.T) {
	wantRolled(t, adler.Sum([]byte("a")), 'a', 'b', 1, adler.Sum([]byte("b")), api.OK)
	wantRolled(t, adler.Sum([]byte("abc")), 'a', 'd', 3, adler.Sum([]byte("bcd")), api.OK)
	for _, b := range texts() {
		if len(b) == 0 {
			continue
		}
		for _, in := range []byte{0, 1, b[0], 254, 255} {
			next := append(bytes.Clone(b[1:]), in)
			wantRolled(t, adler32.Checksum(b), b[0], in, len(b), adler32.Checksum(next), api.OK)
		}
	}
}

// TestP2_3RolledAllBytes: every byte for every other one in a window of one.
func TestP2_3RolledAllBytes(t *testing.T) {
	for out := range 256 {
		for in := range 256 {
			wantRolled(t, adler32.Checksum([]byte{byte(out)}), byte(out), byte(in), 1, adler32.Checksum([]byte{byte(in)}), api.OK)
		}
	}
}

// TestP2_3RolledFarMore: windows of more bytes than could be made: a byte out goes, n-1 bytes x and one in stay.
func TestP2_3RolledFarMore(t *testing.T) {
	for _, n := range counts {
		for _, x := range []byte{0, 1, 254, 255} {
			for _, in := range []byte{0, 1, 255} {
				sum := sumOfMany(1, 0, x, n)
				rest := sumOfMany(1, 0, x, n-1)
				wantRolled(t, sum, x, in, n, adler.More(rest, []byte{in}), api.OK)
			}
			for _, out := range []byte{0, 255} {
				sum := sumOfMany(1+uint32(out), 1+uint32(out), x, n-1)
				wantRolled(t, sum, out, x, n, sumOfMany(1, 0, x, n), api.OK)
			}
		}
	}
}

// TestP2_3RolledRefuses: each half, and n, alone and together.
func TestP2_3RolledRefuses(t *testing.T) {
	for _, n := range []int{0, -1, -65520, math.MinInt32, math.MinInt} {
		wantRolled(t, adler.Sum([]byte("a")), 'a', 'b', n, 0, api.ErrArg)
		wantRolled(t, 1, 0, 0, n, 0, api.ErrArg)
		wantRolled(t, math.MaxUint32, 0, 0, n, 0, api.ErrArg)
	}
	for _, wrong := range wrongHalves {
		for _, n := range []int{1, 2, 65521, math.MaxInt} {
			wantRolled(t, sumOf(0, wrong), 0, 0, n, 0, api.ErrArg)
			wantRolled(t, sumOf(wrong, 1), 0, 0, n, 0, api.ErrArg)
			wantRolled(t, sumOf(wrong, wrong), 255, 255, n, 0, api.ErrArg)
		}
	}
	if _, e := adler.Rolled(sumOf(65520, 65520), 255, 0, 1); e != api.OK {
		t.Errorf("Rolled of halves of 65,520: %d", e)
	}
}

// TestP2_4MoreAndJoinedAreSum: two texts, one behind the other, and one text cut at every place.
func TestP2_4MoreAndJoinedAreSum(t *testing.T) {
	for _, a := range texts() {
		for _, b := range texts() {
			both := adler.Sum(bytes.Join([][]byte{a, b}, nil))
			wantMore(t, adler.Sum(a), b, both)
			wantJoined(t, adler.Sum(a), adler.Sum(b), len(b), both, api.OK)
		}
	}
	whole := bytes.Repeat([]byte{255, 0, 254, 1, 128}, 80)
	for i := range len(whole) + 1 {
		wantMore(t, adler.Sum(whole[:i]), whole[i:], adler.Sum(whole))
		wantJoined(t, adler.Sum(whole[:i]), adler.Sum(whole[i:]), len(whole)-i, adler.Sum(whole), api.OK)
	}
}

// TestP2_4WindowRolls: windows of several widths, rolled through bytes to their end.
func TestP2_4WindowRolls(t *testing.T) {
	stream := append(bytes.Repeat([]byte{255}, 700), texts()[10]...)
	stream = append(stream, bytes.Repeat([]byte{0}, 700)...)
	stream = append(stream, []byte(strings.Repeat("the window goes on byte by byte; ", 10))...)
	for _, n := range []int{1, 2, 3, 7, 255, 256, 257, 258, 1000} {
		sum := adler.Sum(stream[:n])
		for i := 0; i+n < len(stream); i++ {
			want := adler32.Checksum(stream[i+1 : i+1+n])
			wantRolled(t, sum, stream[i], stream[i+n], n, want, api.OK)
			sum = want
		}
	}
}

// TestP2_4WideWindowRolls: a window that is wider than the modulus.
func TestP2_4WideWindowRolls(t *testing.T) {
	for _, n := range []int{65520, 65521, 65522, 70000} {
		stream := append(bytes.Repeat([]byte{255, 3}, n/2+1), []byte("abc\x00\xff")...)
		sum := adler.Sum(stream[:n])
		for i := 0; i+n < len(stream); i++ {
			want := adler32.Checksum(stream[i+1 : i+1+n])
			wantRolled(t, sum, stream[i], stream[i+n], n, want, api.OK)
			sum = want
		}
	}
}

// TestT6AdlerCallsEnd: no argument makes a call panic, and whatever is answered has halves of a sum, or is nothing beside an error.
func TestT6AdlerCallsEnd(t *testing.T) {
	isSum := func(x uint32) bool { return x&0xffff < modulus && x>>16 < modulus }
	halves := append(append([]uint32{}, edges...), wrongHalves...)
	numbers := append([]int{math.MinInt, -65521, -1, 0}, counts...)
	for _, low := range halves {
		for _, high := range halves {
			sum := sumOf(high, low)
			for _, n := range numbers {
				for _, other := range []uint32{0, sum, 1, math.MaxUint32} {
					x, e := adler.Joined(sum, other, n)
					good := n >= 0 && isSum(sum) && isSum(other)
					if good != (e == api.OK) || !good && (x != 0 || e != api.ErrArg) || !isSum(x) {
						t.Errorf("Joined(%#x, %#x, %d): %#x %d", sum, other, n, x, e)
					}
				}
				for _, pair := range [][2]byte{{0, 0}, {0, 255}, {255, 0}, {255, 255}} {
					x, e := adler.Rolled(sum, pair[0], pair[1], n)
					good := n >= 1 && isSum(sum)
					if good != (e == api.OK) || !good && (x != 0 || e != api.ErrArg) || !isSum(x) {
						t.Errorf("Rolled(%#x, %v, %d): %#x %d", sum, pair, n, x, e)
					}
				}
			}
		}
	}
}

// TestRule4AdlerLeavesBytes: what is handed in stays, and its spare room is not looked at.
func TestRule4AdlerLeavesBytes(t *testing.T) {
	room := []byte("Wikipedia and more")
	b := room[:9]
	wantSum(t, b, 300286872)
	wantMore(t, adler.Sum(room[:4]), room[4:9], 300286872)
	copy(room[9:], "~~~~~~~~~")
	wantSum(t, b, 300286872)
	if string(room) != "Wikipedia~~~~~~~~~" {
		t.Errorf("bytes were changed: %q", room)
	}
}
