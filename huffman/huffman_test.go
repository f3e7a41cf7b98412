package huffman_test

import (
	"bytes"
	"math"
	"math/big"
	"math/rand"
	"slices"
	"sort"
	"strconv"
	"strings"
	"testing"

	"sluicegate/api"
	"sluicegate/huffman"
)

// same is n times that length.
func same(length, n int) []int {
	return slices.Repeat([]int{length}, n)
}

// steps has the lengths 1, 2, .. up to last, one symbol each: it lacks just one more code of last bits.
func steps(last int) []int {
	var lengths []int
	for length := 1; length <= last; length++ {
		lengths = append(lengths, length)
	}
	return lengths
}

// streamLengths is a whole code of 288 symbols, with three lengths that come back.
func streamLengths() []int {
	return slices.Concat(same(8, 144), same(9, 112), same(7, 24), same(8, 8))
}

func wholeCodes() [][]int {
	return [][]int{
		{1, 1}, {0, 1, 0, 1, 0}, {1, 2, 2}, {2, 2, 1}, {2, 1, 2}, {2, 2, 2, 2}, {3, 3, 3, 3, 3, 2, 4, 4}, {1, 3, 3, 3, 3}, {1, 0, 3, 3, 0, 3, 3},
		append(steps(15), 15), append([]int{15}, steps(15)...), append(same(0, 304), append(steps(15), 15)...),
		streamLengths(), same(5, 32), same(8, 256), append(same(9, 64), same(8, 224)...), append(same(9, 128), same(8, 192)...), append(same(8, 192), same(9, 128)...),
	}
}

func gappyCodes() [][]int {
	return [][]int{
		{1}, {0, 1}, {15}, {0, 0, 0, 15}, {0, 2}, {1, 2}, {2, 1}, {2, 2, 2}, {1, 2, 3}, {1, 15}, {15, 1}, {3, 5, 15}, {3, 0, 7, 0, 5},
		steps(14), steps(15), append(steps(14), 0), same(15, 320), same(9, 320), append(same(0, 319), 15), append(same(0, 319), 1), same(8, 255), same(5, 30),
	}
}

// codeless lengths are gappy too, and no symbol has a code.
func codeless() [][]int {
	return [][]int{nil, {}, {0}, {0, 0}, same(0, 320)}
}

type wrong struct {
	lengths []int
	e       api.Errno
}

// wrongs are lengths that every call refuses; where two errors are due the first by the chapter's order.
func wrongs() []wrong {
	return []wrong{
		{same(0, 321), api.ErrLong}, {same(15, 321), api.ErrLong}, {same(0, 5000), api.ErrLong},
		{same(1, 321), api.ErrLong}, {same(-1, 321), api.ErrLong}, {same(16, 321), api.ErrLong},
		{append(same(0, 320), 16), api.ErrLong}, {append([]int{-1, 1, 1, 1}, same(0, 317)...), api.ErrLong},
		{[]int{-1}, api.ErrArg}, {[]int{16}, api.ErrArg}, {[]int{17}, api.ErrArg}, {[]int{0, -1}, api.ErrArg}, {[]int{15, 16}, api.ErrArg},
		{[]int{math.MinInt}, api.ErrArg}, {[]int{math.MaxInt}, api.ErrArg}, {[]int{1, 1, 1 << 20}, api.ErrArg}, {[]int{256}, api.ErrArg}, {[]int{1 << 16}, api.ErrArg},
		{append(same(0, 319), -1), api.ErrArg}, {append(same(0, 319), 16), api.ErrArg}, {append(same(15, 319), 16), api.ErrArg},
		{[]int{1, 1, 1, 16}, api.ErrArg}, {[]int{16, 1, 1, 1}, api.ErrArg}, {[]int{-1, 1, 1, 1}, api.ErrArg}, {append(same(1, 319), -1), api.ErrArg},
		{[]int{1, 1, 1}, api.ErrFull}, {[]int{1, 1, 15}, api.ErrFull}, {[]int{15, 1, 1}, api.ErrFull}, {[]int{0, 1, 0, 1, 0, 1}, api.ErrFull}, {[]int{1, 2, 2, 15}, api.ErrFull},
		{[]int{1, 2, 3, 3, 3}, api.ErrFull}, {same(8, 257), api.ErrFull}, {same(1, 320), api.ErrFull}, {same(8, 320), api.ErrFull}, {append(same(9, 127), same(8, 193)...), api.ErrFull},
		{append(steps(15), 15, 15), api.ErrFull}, {append(steps(15), 14), api.ErrFull}, {append(streamLengths(), 15), api.ErrFull},
	}
}

func rightCodes() [][]int {
	return slices.Concat(wholeCodes(), gappyCodes(), codeless(), drawnCodes())
}

// drawnCodes are whole codes made by splitting codes in two, told in any order with symbols between that have none, and the same with a code less.
func drawnCodes() [][]int {
	draw := rand.New(rand.NewSource(3))
	var all [][]int
	for range 60 {
		whole := drawnWhole(draw)
		all = append(all, whole)
		gappy := slices.Clone(whole)
		gappy[draw.Intn(len(gappy))] = 0
		all = append(all, gappy)
	}
	return all
}

func drawnWhole(draw *rand.Rand) []int {
	lengths := []int{1, 1}
	for want := 2 + draw.Intn(200); len(lengths) < want; {
		i := draw.Intn(len(lengths))
		if lengths[i] < 15 {
			lengths[i]++
			lengths = append(lengths, lengths[i])
		}
	}
	lengths = append(lengths, same(0, draw.Intn(40))...)
	draw.Shuffle(len(lengths), func(i, j int) { lengths[i], lengths[j] = lengths[j], lengths[i] })
	return lengths
}

// smallCodes are all lengths of up to three symbols of up to three bits.
func smallCodes() [][]int {
	all := [][]int{nil}
	for from := 0; len(all[from]) < 3; from++ {
		for length := range 4 {
			all = append(all, append(slices.Clone(all[from]), length))
		}
	}
	return all
}

// plainFullness is the sum of 2^-length: below 0, 0 and above 0 as it is below 1, 1 and above 1.
func plainFullness(lengths []int) int {
	sum := new(big.Rat)
	for _, length := range lengths {
		if length > 0 {
			sum.Add(sum, big.NewRat(1, 1<<length))
		}
	}
	return sum.Cmp(big.NewRat(1, 1))
}

// plainCodes are the codes as texts of 0 and 1, by the chapter's words; empty, if the symbol has none.
func plainCodes(lengths []int) []string {
	var order []int
	for symbol, length := range lengths {
		if length > 0 {
			order = append(order, symbol)
		}
	}
	sort.Slice(order, func(i, j int) bool {
		a, b := order[i], order[j]
		return lengths[a] < lengths[b] || lengths[a] == lengths[b] && a < b
	})
	codes := make([]string, len(lengths))
	code := 0
	for i, symbol := range order {
		if i > 0 {
			code++
			for range lengths[symbol] - lengths[order[i-1]] {
				code *= 2
			}
		}
		text := strconv.FormatInt(int64(code), 2)
		codes[symbol] = strings.Repeat("0", lengths[symbol]-len(text)) + text
	}
	return codes
}

func longest(lengths []int) int {
	return slices.Max(append([]int{0}, lengths...))
}

// textOf is the bits of bytes as a text, the bit 0 first.
func textOf(b []byte) string {
	var s strings.Builder
	for i := range 8 * len(b) {
		s.WriteByte('0' + b[i/8]>>(i%8)&1)
	}
	return s.String()
}

// bytesOf is the bytes of bits, the last one filled with 0.
func bytesOf(text string) []byte {
	b := make([]byte, (len(text)+7)/8)
	for i := range text {
		b[i/8] |= (text[i] - '0') << (i % 8)
	}
	return b
}

// plainRead reads from a text of bits, by the chapter's words.
func plainRead(lengths []int, text string) (symbol, bits int, e api.Errno) {
	codes := plainCodes(lengths)
	for bits := 0; ; bits++ {
		if bits > 0 && bits <= len(text) {
			if symbol := slices.Index(codes, text[:bits]); symbol >= 0 {
				return symbol, bits, api.OK
			}
		}
		if bits == longest(lengths) {
			return 0, 0, api.ErrBad
		}
		if bits == len(text) {
			return 0, 0, api.ErrShort
		}
	}
}

func wantCheck(t *testing.T, lengths []int, whole bool, wantErr api.Errno) {
	t.Helper()
	if got, e := huffman.Check(lengths); got != whole || e != wantErr {
		t.Errorf("Check of %d lengths %.60v: %v %d, not %v %d", len(lengths), lengths, got, e, whole, wantErr)
	}
}

func wantCodes(t *testing.T, lengths, codes []int, wantErr api.Errno) {
	t.Helper()
	if got, e := huffman.Codes(lengths); !slices.Equal(got, codes) || e != wantErr {
		t.Errorf("Codes of %d lengths %.60v: %v %d, not %v %d", len(lengths), lengths, got, e, codes, wantErr)
	}
}

func wantRead(t *testing.T, lengths []int, b []byte, at, symbol, bits int, wantErr api.Errno) {
	t.Helper()
	if gotSymbol, gotBits, e := huffman.Read(lengths, b, at); gotSymbol != symbol || gotBits != bits || e != wantErr {
		t.Errorf("Read(%d lengths %.60v, %.20v, %d): %d %d %d, not %d %d %d", len(lengths), lengths, b, at, gotSymbol, gotBits, e, symbol, bits, wantErr)
	}
}

func wantWrite(t *testing.T, lengths, symbols []int, b []byte, bits int, wantErr api.Errno) {
	t.Helper()
	if got, gotBits, e := huffman.Write(lengths, symbols); !bytes.Equal(got, b) || gotBits != bits || e != wantErr {
		t.Errorf("Write(%d lengths %.60v, %.20v): %v %d %d, not %v %d %d", len(lengths), lengths, symbols, got, gotBits, e, b, bits, wantErr)
	}
}

func wantAll(t *testing.T, lengths []int, b []byte, n int, symbols []int, bits int, wantErr api.Errno) {
	t.Helper()
	if got, gotBits, e := huffman.All(lengths, b, n); !slices.Equal(got, symbols) || gotBits != bits || e != wantErr {
		t.Errorf("All(%d lengths %.60v, %.20v, %d): %v %d %d, not %v %d %d", len(lengths), lengths, b, n, got, gotBits, e, symbols, bits, wantErr)
	}
}

func TestExamples(t *testing.T) {
	wantCodes(t, []int{3, 3, 3, 3, 3, 2, 4, 4}, []int{2, 3, 4, 5, 6, 0, 14, 15}, api.OK)
	wantCheck(t, []int{1, 1}, true, api.OK)
	wantCheck(t, []int{1, 2}, false, api.OK)
	wantCheck(t, []int{1, 1, 1}, false, api.ErrFull)
	wantCheck(t, []int{16}, false, api.ErrArg)
	wantCheck(t, nil, false, api.OK)
	lengths := []int{1, 2, 2}
	wantWrite(t, lengths, []int{0, 1, 2}, []byte{26}, 5, api.OK)
	wantRead(t, lengths, []byte{26}, 0, 0, 1, api.OK)
	wantRead(t, lengths, []byte{26}, 1, 1, 2, api.OK)
	wantRead(t, lengths, []byte{26}, 3, 2, 2, api.OK)
	wantRead(t, lengths, []byte{26}, 8, 0, 0, api.ErrShort)
	wantRead(t, []int{0, 2}, []byte{255}, 0, 0, 0, api.ErrBad)
	wantRead(t, []int{0, 0}, []byte{255}, 0, 0, 0, api.ErrBad)
}

func TestP3_1CheckWhole(t *testing.T) {
	for _, lengths := range wholeCodes() {
		wantCheck(t, lengths, true, api.OK)
	}
}

func TestP3_1CheckGappy(t *testing.T) {
	for _, lengths := range slices.Concat(gappyCodes(), codeless()) {
		wantCheck(t, lengths, false, api.OK)
	}
}

func TestP3_1CheckWrong(t *testing.T) {
	for _, w := range wrongs() {
		wantCheck(t, w.lengths, false, w.e)
	}
}

func TestP3_1CheckFullness(t *testing.T) {
	tooFull := slices.Clone(smallCodes())
	for _, lengths := range drawnCodes() {
		tooFull = append(tooFull, append(slices.Clone(lengths), 15), append(slices.Clone(lengths), 9, 9))
	}
	for _, lengths := range slices.Concat(rightCodes(), tooFull) {
		switch fullness := plainFullness(lengths); {
		case fullness > 0:
			wantCheck(t, lengths, false, api.ErrFull)
		default:
			wantCheck(t, lengths, fullness == 0, api.OK)
		}
	}
}

// The number of lengths is asked for ahead of what they are, at the limit and one beyond it.
func TestP3_1CheckLimits(t *testing.T) {
	wantCheck(t, same(0, api.MaxSymbols), false, api.OK)
	wantCheck(t, same(0, api.MaxSymbols+1), false, api.ErrLong)
	wantCheck(t, []int{api.MaxBits}, false, api.OK)
	wantCheck(t, []int{api.MaxBits + 1}, false, api.ErrArg)
	wantCheck(t, []int{0}, false, api.OK)
	wantCheck(t, []int{-1}, false, api.ErrArg)
}

func TestP3_1CodesByHand(t *testing.T) {
	wantCodes(t, nil, nil, api.OK)
	wantCodes(t, []int{0}, []int{-1}, api.OK)
	wantCodes(t, []int{0, 0, 0}, []int{-1, -1, -1}, api.OK)
	wantCodes(t, []int{1}, []int{0}, api.OK)
	wantCodes(t, []int{15}, []int{0}, api.OK)
	wantCodes(t, []int{15, 1}, []int{1 << 14, 0}, api.OK)
	wantCodes(t, []int{2, 0, 1, 2}, []int{2, -1, 0, 3}, api.OK)
	wantCodes(t, []int{5, 3, 0, 5, 15}, []int{4, 0, -1, 5, 6 << 10}, api.OK)
	wantCodes(t, append(steps(15), 15), []int{0, 2, 6, 14, 30, 62, 126, 254, 510, 1022, 2046, 4094, 8190, 16382, 32766, 32767}, api.OK)
	wantCodes(t, same(0, 320), same(-1, 320), api.OK)
	codes, e := huffman.Codes(streamLengths())
	if e != api.OK || len(codes) != 288 {
		t.Fatalf("Codes of the 288 lengths: %d codes, %d", len(codes), e)
	}
	for symbol, code := range map[int]int{0: 48, 143: 191, 144: 400, 255: 511, 256: 0, 279: 23, 280: 192, 287: 199} {
		if codes[symbol] != code {
			t.Errorf("Codes of the 288 lengths: %d has %d, not %d", symbol, codes[symbol], code)
		}
	}
}

func TestP3_1CodesInOrder(t *testing.T) {
	for _, lengths := range rightCodes() {
		want := same(-1, len(lengths))
		for symbol, text := range plainCodes(lengths) {
			if text != "" {
				code, _ := strconv.ParseInt(text, 2, 64)
				want[symbol] = int(code)
			}
		}
		wantCodes(t, lengths, want, api.OK)
	}
}

func TestP3_1CodesWrong(t *testing.T) {
	for _, w := range wrongs() {
		wantCodes(t, w.lengths, nil, w.e)
	}
}

// All small codes that are right, all bytes, all places in and about them.
func TestP3_2ReadSmall(t *testing.T) {
	for _, lengths := range smallCodes() {
		if plainFullness(lengths) > 0 {
			continue
		}
		for x := range 256 {
			text := textOf([]byte{byte(x)})
			for at := range 11 {
				symbol, bits, e := plainRead(lengths, text[min(at, 8):])
				wantRead(t, lengths, []byte{byte(x)}, at, symbol, bits, e)
			}
		}
	}
}

func TestP3_2ReadDrawn(t *testing.T) {
	draw := rand.New(rand.NewSource(32))
	for _, lengths := range rightCodes() {
		b := make([]byte, 6)
		draw.Read(b)
		text := textOf(b)
		for at := range 52 {
			symbol, bits, e := plainRead(lengths, text[min(at, 48):])
			wantRead(t, lengths, b, at, symbol, bits, e)
		}
	}
}

// Each code is read wherever it stands, whatever is about it, up to the last bit; with its last bit cut off the bytes end too early.
func TestP3_2ReadEachCode(t *testing.T) {
	for _, lengths := range slices.Concat(wholeCodes(), gappyCodes()) {
		for symbol, code := range plainCodes(lengths) {
			if code == "" {
				continue
			}
			for at := range 9 {
				ahead := strings.Repeat("1", at)
				wantRead(t, lengths, bytesOf(ahead+code+"1111111111"), at, symbol, len(code), api.OK)
				wantRead(t, lengths, bytesOf(ahead+code), at, symbol, len(code), api.OK)
			}
			b, at := atTheEnd(code)
			wantRead(t, lengths, b, at, symbol, len(code), api.OK)
			b, at = atTheEnd(code[:len(code)-1])
			wantRead(t, lengths, b, at, 0, 0, api.ErrShort)
		}
	}
}

// atTheEnd is bytes that end with these bits, and the place where these begin.
func atTheEnd(text string) (b []byte, at int) {
	at = 8 + (8-len(text)%8)%8
	return bytesOf(strings.Repeat("1", at) + text), at
}

func TestP3_2ReadPlaces(t *testing.T) {
	lengths := []int{1, 2, 2}
	b := []byte{0, 64 | 128, 128}
	wantRead(t, lengths, b, -1, 0, 0, api.ErrArg)
	wantRead(t, lengths, b, math.MinInt, 0, 0, api.ErrArg)
	wantRead(t, lengths, b, 7, 0, 1, api.OK)
	wantRead(t, lengths, b, 14, 2, 2, api.OK)
	wantRead(t, lengths, b, 15, 1, 2, api.OK)
	wantRead(t, lengths, b, 22, 0, 1, api.OK)
	wantRead(t, lengths, b, 23, 0, 0, api.ErrShort)
	wantRead(t, []int{1, 1}, b, 23, 1, 1, api.OK)
	for _, at := range []int{24, 25, 31, 32, 1 << 20, math.MaxInt32, math.MaxInt - 8, math.MaxInt - 1, math.MaxInt} {
		wantRead(t, lengths, b, at, 0, 0, api.ErrShort)
		wantRead(t, []int{1}, b, at, 0, 0, api.ErrShort)
		wantRead(t, []int{0, 0}, b, at, 0, 0, api.ErrBad)
	}
	for _, b := range [][]byte{nil, {}} {
		wantRead(t, lengths, b, -1, 0, 0, api.ErrArg)
		wantRead(t, lengths, b, 0, 0, 0, api.ErrShort)
	}
}

// Bits that begin no code are bad only when they are as many as the longest code has.
func TestP3_2ReadBadOrShort(t *testing.T) {
	wantRead(t, []int{1}, []byte{128}, 6, 0, 1, api.OK)
	wantRead(t, []int{1}, []byte{128}, 7, 0, 0, api.ErrBad)
	wantRead(t, []int{0, 2}, []byte{255}, 6, 0, 0, api.ErrBad)
	wantRead(t, []int{0, 2}, []byte{255}, 7, 0, 0, api.ErrShort)
	wantRead(t, []int{1, 15}, []byte{255, 127}, 0, 0, 0, api.ErrBad)
	wantRead(t, []int{1, 15}, []byte{255, 127}, 1, 0, 0, api.ErrBad)
	wantRead(t, []int{1, 15}, []byte{255, 127}, 2, 0, 0, api.ErrShort)
	wantRead(t, []int{1, 15}, []byte{255}, 0, 0, 0, api.ErrShort)
	wantRead(t, []int{15}, []byte{0, 0}, 1, 0, 15, api.OK)
	wantRead(t, []int{15}, []byte{0, 0}, 2, 0, 0, api.ErrShort)
	wantRead(t, []int{15}, []byte{0, 64}, 0, 0, 0, api.ErrBad)
	for _, lengths := range codeless() {
		wantRead(t, lengths, nil, 0, 0, 0, api.ErrBad)
		wantRead(t, lengths, []byte{0}, 0, 0, 0, api.ErrBad)
		wantRead(t, lengths, []byte{0}, 8, 0, 0, api.ErrBad)
		wantRead(t, lengths, []byte{0}, -1, 0, 0, api.ErrArg)
	}
}

func TestP3_2ReadWrong(t *testing.T) {
	for _, w := range wrongs() {
		for _, at := range []int{math.MinInt, -1, 0, 7, 8, math.MaxInt} {
			wantRead(t, w.lengths, []byte{0}, at, 0, 0, w.e)
		}
		wantRead(t, w.lengths, nil, 0, 0, 0, w.e)
	}
}

func TestP3_3WriteByHand(t *testing.T) {
	lengths := []int{1, 2, 2}
	wantWrite(t, lengths, nil, nil, 0, api.OK)
	wantWrite(t, lengths, []int{0}, []byte{0}, 1, api.OK)
	wantWrite(t, lengths, []int{1}, []byte{1}, 2, api.OK)
	wantWrite(t, lengths, []int{2}, []byte{3}, 2, api.OK)
	wantWrite(t, lengths, same(0, 8), []byte{0}, 8, api.OK)
	wantWrite(t, lengths, same(0, 9), []byte{0, 0}, 9, api.OK)
	wantWrite(t, lengths, same(2, 4), []byte{255}, 8, api.OK)
	wantWrite(t, lengths, same(2, 5), []byte{255, 3}, 10, api.OK)
	wantWrite(t, lengths, []int{0, 2, 2, 2, 2}, []byte{254, 1}, 9, api.OK)
	wantWrite(t, []int{15, 1}, []int{0, 1, 0}, []byte{1, 0, 1, 0}, 31, api.OK)
	wantWrite(t, append(steps(15), 15), []int{15, 14}, []byte{255, 255, 255, 31}, 30, api.OK)
	wantWrite(t, streamLengths(), []int{'a', 256}, []byte{0x89, 0}, 15, api.OK)
}

func TestP3_3WriteDrawn(t *testing.T) {
	draw := rand.New(rand.NewSource(33))
	for _, lengths := range slices.Concat(wholeCodes(), gappyCodes(), drawnCodes()) {
		symbols := drawnSymbols(draw, lengths, 100)
		text := textOfSymbols(lengths, symbols)
		wantWrite(t, lengths, symbols, bytesOf(text), len(text), api.OK)
		for n := range 10 {
			text := textOfSymbols(lengths, symbols[:n])
			wantWrite(t, lengths, symbols[:n], bytesOf(text), len(text), api.OK)
		}
	}
}

func TestP3_3WriteWrongSymbols(t *testing.T) {
	for _, symbol := range []int{math.MinInt, -2, -1, 0, 2, 4, 5, 6, 16, 256, 319, 320, math.MaxInt32, math.MaxInt} {
		for _, symbols := range [][]int{{symbol}, {1, symbol}, {symbol, 1}, {1, 3, symbol, 3, 1}} {
			wantWrite(t, []int{0, 1, 0, 2}, symbols, nil, 0, api.ErrArg)
		}
	}
	for _, lengths := range codeless() {
		wantWrite(t, lengths, nil, nil, 0, api.OK)
		for _, symbol := range []int{-1, 0, 1, 319, 320} {
			wantWrite(t, lengths, []int{symbol}, nil, 0, api.ErrArg)
		}
	}
	wantWrite(t, same(9, 320), []int{320}, nil, 0, api.ErrArg)
	wantWrite(t, same(9, 320), []int{319}, bytesOf("100111111"), 9, api.OK)
}

func TestP3_3WriteWrong(t *testing.T) {
	for _, w := range wrongs() {
		for _, symbols := range [][]int{nil, {0}, {-1}, {len(w.lengths)}, {math.MaxInt}} {
			wantWrite(t, w.lengths, symbols, nil, 0, w.e)
		}
	}
}

func TestP3_4AllDrawn(t *testing.T) {
	draw := rand.New(rand.NewSource(34))
	for _, lengths := range slices.Concat(wholeCodes(), gappyCodes(), drawnCodes()) {
		symbols := drawnSymbols(draw, lengths, 60)
		b := bytesOf(textOfSymbols(lengths, symbols))
		for _, n := range []int{0, 1, 2, 7, 8, 9, 59, 60} {
			wantAll(t, lengths, b, n, symbols[:n], len(textOfSymbols(lengths, symbols[:n])), api.OK)
		}
		more := append(slices.Clone(b), 255, 0, 255)
		wantAll(t, lengths, more, 60, symbols, len(textOfSymbols(lengths, symbols)), api.OK)
	}
}

// All is what reading one behind the other says, on any bytes, with its first error.
func TestP3_4AllIsReads(t *testing.T) {
	draw := rand.New(rand.NewSource(341))
	for _, lengths := range rightCodes() {
		b := make([]byte, draw.Intn(12))
		draw.Read(b)
		for _, n := range []int{0, 1, 2, 3, 4, 6, 9, 14, 30, 97} {
			symbols, bits, e := plainAll(lengths, b, n)
			wantAll(t, lengths, b, n, symbols, bits, e)
		}
	}
}

func TestP3_4AllCounts(t *testing.T) {
	lengths := []int{1, 2, 2}
	for _, n := range []int{math.MinInt, -2, -1} {
		wantAll(t, lengths, []byte{26}, n, nil, 0, api.ErrArg)
		wantAll(t, lengths, nil, n, nil, 0, api.ErrArg)
		wantAll(t, nil, nil, n, nil, 0, api.ErrArg)
	}
	wantAll(t, lengths, []byte{26}, 0, nil, 0, api.OK)
	wantAll(t, lengths, []byte{26}, 6, []int{0, 1, 2, 0, 0, 0}, 8, api.OK)
	for _, n := range []int{7, 8, 9, 1 << 20, math.MaxInt32, math.MaxInt} {
		wantAll(t, lengths, []byte{26}, n, nil, 0, api.ErrShort)
		wantAll(t, lengths, nil, n, nil, 0, api.ErrShort)
	}
	wantAll(t, []int{1}, []byte{0}, 8, same(0, 8), 8, api.OK)
	wantAll(t, []int{1}, []byte{0}, 9, nil, 0, api.ErrShort)
	for _, lengths := range codeless() {
		wantAll(t, lengths, []byte{0}, 0, nil, 0, api.OK)
		wantAll(t, lengths, nil, 0, nil, 0, api.OK)
		wantAll(t, lengths, nil, 1, nil, 0, api.ErrBad)
		wantAll(t, lengths, []byte{0}, math.MaxInt, nil, 0, api.ErrBad)
	}
}

// The first error is told, with nothing of what was read ahead of it.
func TestP3_4AllFirstError(t *testing.T) {
	wantAll(t, []int{0, 2}, []byte{0b110000}, 2, []int{1, 1}, 4, api.OK)
	wantAll(t, []int{0, 2}, []byte{0b110000}, 3, nil, 0, api.ErrBad)
	wantAll(t, []int{0, 2}, []byte{0b110000}, 5, nil, 0, api.ErrBad)
	wantAll(t, []int{0, 3}, []byte{0}, 2, []int{1, 1}, 6, api.OK)
	wantAll(t, []int{0, 3}, []byte{0}, 3, nil, 0, api.ErrShort)
	wantAll(t, []int{0, 3}, []byte{128}, 3, nil, 0, api.ErrShort)
}

func TestP3_4AllWrong(t *testing.T) {
	for _, w := range wrongs() {
		for _, n := range []int{math.MinInt, -1, 0, 1, math.MaxInt} {
			wantAll(t, w.lengths, []byte{0}, n, nil, 0, w.e)
		}
	}
}

func TestP3_5NoCodeBeginsAnother(t *testing.T) {
	for _, lengths := range rightCodes() {
		codes := codeTexts(t, lengths)
		for i, a := range codes {
			for j, b := range codes {
				if i != j && a != "" && b != "" && strings.HasPrefix(b, a) {
					t.Fatalf("lengths %v: the code of %d, %s, begins that of %d, %s", lengths, i, a, j, b)
				}
			}
		}
	}
}

func TestP3_5WrittenIsReadBack(t *testing.T) {
	draw := rand.New(rand.NewSource(35))
	for _, lengths := range slices.Concat(wholeCodes(), gappyCodes(), drawnCodes()) {
		symbols := drawnSymbols(draw, lengths, 200)
		b, bits, e := huffman.Write(lengths, symbols)
		if e != api.OK || len(b) != (bits+7)/8 {
			t.Fatalf("Write(%v, %v): %d bytes, %d bits, %d", lengths, symbols, len(b), bits, e)
		}
		wantAll(t, lengths, b, len(symbols), symbols, bits, api.OK)
		at := 0
		for _, symbol := range symbols {
			wantRead(t, lengths, b, at, symbol, lengths[symbol], api.OK)
			at += lengths[symbol]
		}
		if at != bits {
			t.Errorf("Write(%v, %v): %d bits, not %d", lengths, symbols, bits, at)
		}
	}
}

// Of all sequences of 15 bits: each begins with a code if the code is whole, as many do not as there is room if it is gappy.
func TestP3_5SequencesOf15Bits(t *testing.T) {
	for _, lengths := range slices.Concat(wholeCodes(), gappyCodes(), codeless(), drawnCodes()[:8]) {
		whole, e := huffman.Check(lengths)
		if e != api.OK {
			t.Fatalf("Check of %v: %d", lengths, e)
		}
		codes := codeTexts(t, lengths)
		none := 0
		for x := range 1 << 15 {
			b := []byte{byte(x), byte(x >> 8)}
			symbol, bits, e := huffman.Read(lengths, b, 0)
			if e == api.ErrBad {
				none++
			} else if e != api.OK || codes[symbol] != textOf(b)[:bits] {
				t.Fatalf("Read(%v, %v, 0): %d %d %d", lengths, b, symbol, bits, e)
			}
		}
		room := 1 << 15
		for _, code := range codes {
			if code != "" {
				room -= 1 << (15 - len(code))
			}
		}
		if none != room || whole != (none == 0) {
			t.Errorf("lengths %v, whole %v: %d sequences begin with no code, not %d", lengths, whole, none, room)
		}
	}
}

// Every call ends without a panic, beside every error all else is zero, and the calls agree on the lengths.
func TestT6HuffmanCallsEnd(t *testing.T) {
	all := append(rightCodes(), smallCodes()...)
	for _, w := range wrongs() {
		all = append(all, w.lengths)
	}
	numbers := []int{math.MinInt, math.MinInt + 1, math.MinInt32, -321, -1, 0, 1, 7, 8, 15, 16, 17, 319, 320, 321, math.MaxInt32, math.MaxInt - 7, math.MaxInt}
	for _, lengths := range all {
		whole, checked := huffman.Check(lengths)
		codes, e := huffman.Codes(lengths)
		if e != checked || e != api.OK && (whole || len(codes) > 0) {
			t.Errorf("lengths %v: Check %v %d, Codes %v %d", lengths, whole, checked, codes, e)
		}
		for _, b := range [][]byte{nil, {0}, {255, 255, 255}} {
			for _, x := range numbers {
				symbol, bits, e := huffman.Read(lengths, b, x)
				if e != api.OK && (symbol != 0 || bits != 0) || checked != api.OK && e != checked {
					t.Errorf("Read(%v, %v, %d): %d %d %d", lengths, b, x, symbol, bits, e)
				}
				symbols, bits, e := huffman.All(lengths, b, x)
				if e != api.OK && (len(symbols) > 0 || bits != 0) || checked != api.OK && e != checked {
					t.Errorf("All(%v, %v, %d): %v %d %d", lengths, b, x, symbols, bits, e)
				}
				written, bits, e := huffman.Write(lengths, []int{x})
				if e != api.OK && (len(written) > 0 || bits != 0) || checked != api.OK && e != checked {
					t.Errorf("Write(%v, %d): %v %d %d", lengths, x, written, bits, e)
				}
			}
		}
	}
}

// What is handed in stays, and what stands in its room behind is neither read nor written.
func TestRule4HandedInStays(t *testing.T) {
	room := []int{1, 2, 2, 15, 99, -7}
	lengths, symbolRoom, byteRoom := room[:3], []int{0, 1, 2, 77, -5}, []byte{26, 0, 0}
	wantCheck(t, lengths, true, api.OK)
	wantCodes(t, lengths, []int{0, 2, 3}, api.OK)
	wantWrite(t, lengths, symbolRoom[:3], []byte{26}, 5, api.OK)
	wantRead(t, lengths, byteRoom[:1], 8, 0, 0, api.ErrShort)
	wantRead(t, lengths, byteRoom[:0], 0, 0, 0, api.ErrShort)
	wantAll(t, lengths, byteRoom[:1], 6, []int{0, 1, 2, 0, 0, 0}, 8, api.OK)
	wantAll(t, lengths, byteRoom[:1], 7, nil, 0, api.ErrShort)
	if !slices.Equal(room, []int{1, 2, 2, 15, 99, -7}) || !slices.Equal(symbolRoom, []int{0, 1, 2, 77, -5}) || !bytes.Equal(byteRoom, []byte{26, 0, 0}) {
		t.Errorf("changed: %v %v %v", room, symbolRoom, byteRoom)
	}
}

// Answers, with all their room, share nothing with what was handed in nor with other answers.
func TestRule4AnswersAreNew(t *testing.T) {
	lengths, symbols, b := []int{1, 2, 2}, []int{0, 1, 2}, []byte{26}
	codes, _ := huffman.Codes(lengths)
	read, _, _ := huffman.All(lengths, b, 3)
	written, _, _ := huffman.Write(lengths, symbols)
	clear(codes[:cap(codes)])
	clear(read[:cap(read)])
	clear(written[:cap(written)])
	if !slices.Equal(lengths, []int{1, 2, 2}) || !slices.Equal(symbols, []int{0, 1, 2}) || !bytes.Equal(b, []byte{26}) {
		t.Errorf("changed: %v %v %v", lengths, symbols, b)
	}
	wantCodes(t, lengths, []int{0, 2, 3}, api.OK)
	wantAll(t, lengths, b, 3, []int{0, 1, 2}, 5, api.OK)
	wantWrite(t, lengths, symbols, []byte{26}, 5, api.OK)
	codes, _ = huffman.Codes(lengths)
	read, _, _ = huffman.All(lengths, b, 3)
	written, _, _ = huffman.Write(lengths, symbols)
	clear(lengths)
	clear(symbols)
	clear(b)
	if !slices.Equal(codes, []int{0, 2, 3}) || !slices.Equal(read, []int{0, 1, 2}) || !bytes.Equal(written, []byte{26}) {
		t.Errorf("shared: %v %v %v", codes, read, written)
	}
}

func TestRule6NilIsEmpty(t *testing.T) {
	for _, none := range [][]int{nil, {}} {
		wantCheck(t, none, false, api.OK)
		wantCodes(t, none, nil, api.OK)
		wantWrite(t, none, nil, nil, 0, api.OK)
		wantWrite(t, []int{1}, none, nil, 0, api.OK)
		for _, b := range [][]byte{nil, {}} {
			wantRead(t, none, b, 0, 0, 0, api.ErrBad)
			wantRead(t, []int{1}, b, 0, 0, 0, api.ErrShort)
			wantAll(t, none, b, 0, nil, 0, api.OK)
			wantAll(t, none, b, 1, nil, 0, api.ErrBad)
			wantAll(t, []int{1}, b, 1, nil, 0, api.ErrShort)
		}
	}
}

// drawnSymbols are n symbols that have a code.
func drawnSymbols(draw *rand.Rand, lengths []int, n int) []int {
	var symbols []int
	for len(symbols) < n {
		if symbol := draw.Intn(len(lengths)); lengths[symbol] > 0 {
			symbols = append(symbols, symbol)
		}
	}
	return symbols
}

func textOfSymbols(lengths, symbols []int) string {
	codes := plainCodes(lengths)
	var s strings.Builder
	for _, symbol := range symbols {
		s.WriteString(codes[symbol])
	}
	return s.String()
}

func plainAll(lengths []int, b []byte, n int) (symbols []int, bits int, e api.Errno) {
	text := textOf(b)
	for range n {
		symbol, size, e := plainRead(lengths, text[bits:])
		if e != api.OK {
			return nil, 0, e
		}
		symbols = append(symbols, symbol)
		bits += size
	}
	return symbols, bits, api.OK
}

// codeTexts are the codes that Codes answers, as texts of 0 and 1.
func codeTexts(t *testing.T, lengths []int) []string {
	t.Helper()
	codes, e := huffman.Codes(lengths)
	if e != api.OK || len(codes) != len(lengths) {
		t.Fatalf("Codes of %v: %v %d", lengths, codes, e)
	}
	texts := make([]string, len(codes))
	for symbol, code := range codes {
		if lengths[symbol] > 0 {
			text := strconv.FormatInt(int64(code), 2)
			texts[symbol] = strings.Repeat("0", max(0, lengths[symbol]-len(text))) + text
			if len(texts[symbol]) != lengths[symbol] {
				t.Fatalf("Codes of %v: %d has %d, more than %d bits", lengths, symbol, code, lengths[symbol])
			}
		}
	}
	return texts
}
