package inflate_test

import (
	"fmt"
	"slices"
)

// writer puts streams together, bit by bit. Its methods answer it, so that a stream is written in a row.
type writer struct {
	b                   []byte
	n                   int      // bits
	literals, distances []string // the codes of the block that was begun last
}

// bits puts a text of 0 and 1 behind what is there.
func (w *writer) bits(text string) *writer {
	for _, c := range text {
		if w.n%8 == 0 {
			w.b = append(w.b, 0)
		}
		w.b[w.n/8] |= byte(c-'0') << (w.n % 8)
		w.n++
	}
	return w
}

func (w *writer) field(x, bits int) *writer {
	for i := range bits {
		w.bits(fmt.Sprint(x >> i & 1))
	}
	return w
}

// bytes cuts off what was begun: a stream that is to end at a bit ends at its byte's end.
func (w *writer) bytes() []byte {
	return slices.Clone(w.b)
}

// texts tells each symbol's code.
func texts(lengths []int) []string {
	l := make([]string, len(lengths))
	for code, symbol := range plainCodes(lengths) {
		l[symbol] = code
	}
	return l
}

// code puts a symbol's code.
func (w *writer) code(codes []string, symbol int) *writer {
	if codes[symbol] == "" {
		panic(fmt.Sprint("no code of ", symbol))
	}
	return w.bits(codes[symbol])
}

func (w *writer) head(last, kind int) *writer {
	return w.field(last, 1).field(kind, 2)
}

func (w *writer) toByte(filling string) *writer {
	for w.n%8 != 0 {
		w.bits(filling)
	}
	return w
}

func (w *writer) stored(last int, told []byte) *writer {
	w.head(last, 0).toByte("0").field(len(told), 16).field(65535-len(told), 16)
	w.b = append(w.b, told...)
	w.n += 8 * len(told)
	return w
}

// fixed begins a fixed block.
func (w *writer) fixed(last int) *writer {
	w.literals = texts(slices.Concat(same(8, 144), same(9, 112), same(7, 24), same(8, 8)))
	w.distances = texts(same(5, 32))
	return w.head(last, 1)
}

// symbols puts symbols of the literal code.
func (w *writer) symbols(l ...int) *writer {
	for _, symbol := range l {
		w.code(w.literals, symbol)
	}
	return w
}

func (w *writer) text(s string) *writer {
	for i := range len(s) {
		w.symbols(int(s[i]))
	}
	return w
}

func (w *writer) end() *writer {
	return w.symbols(256)
}

// copy puts a copy, by the last symbols that have its length and its distance.
func (w *writer) copy(length, distance int) *writer {
	symbol := 285
	base, bits := plainLength(symbol)
	for length < base {
		symbol--
		base, bits = plainLength(symbol)
	}
	return w.symbols(symbol).field(length-base, bits).distance(distance)
}

func (w *writer) distance(distance int) *writer {
	symbol := 29
	base, bits := plainDistance(symbol)
	for distance < base {
		symbol--
		base, bits = plainDistance(symbol)
	}
	return w.code(w.distances, symbol).field(distance-base, bits)
}

// item is a symbol of the code of lengths, and the field behind it.
type item struct {
	symbol, field int
}

// ofLengths is a whole code of lengths: all symbols have one, of 4 bits up to 12, of 5 bits the others.
func ofLengths() []int {
	return slices.Concat(same(4, 13), same(5, 6))
}

// plainItems tells each length by itself.
func plainItems(lengths []int) []item {
	var l []item
	for _, length := range lengths {
		l = append(l, item{length, 0})
	}
	return l
}

var itemBits = [19]int{16: 2, 17: 3, 18: 7}

// dynamicHead writes a dynamic block up to the lengths of the code of lengths, of which count are told.
func (w *writer) dynamicHead(last, l, d, count int, code []int) *writer {
	w.head(last, 2).field(l-257, 5).field(d-1, 5).field(count-4, 4)
	for _, symbol := range lengthOrder()[:count] {
		w.field(code[symbol], 3)
	}
	return w
}

func lengthOrder() []int {
	return []int{16, 17, 18, 0, 8, 7, 9, 6, 10, 5, 11, 4, 12, 3, 13, 2, 14, 1, 15}
}

func (w *writer) items(code []int, l []item) *writer {
	codes := texts(code)
	for _, i := range l {
		w.code(codes, i.symbol).field(i.field, itemBits[i.symbol])
	}
	return w
}

// dynamic begins a dynamic block, with the lengths told by themselves.
func (w *writer) dynamic(last int, literals, distances []int) *writer {
	w.literals, w.distances = texts(literals), texts(distances)
	w.dynamicHead(last, len(literals), len(distances), 19, ofLengths())
	return w.items(ofLengths(), plainItems(slices.Concat(literals, distances)))
}

// tight begins a dynamic block whose lengths end at a byte's end, so that nothing stands behind them: of 22 lengths of 0 behind one another some threes are told by a 16, each with 5 bits less than by three symbols.
func (w *writer) tight(last int, literals, distances []int) *writer {
	lengths := slices.Concat(literals, distances)
	run := 0
	for !slices.Equal(lengths[run:run+22], same(0, 22)) {
		run++
	}
	for threes := range 8 {
		l := plainItems(lengths[:run+1])
		l = append(l, slices.Repeat([]item{{16, 0}}, threes)...)
		l = append(l, plainItems(lengths[run+1+3*threes:])...)
		try := &writer{b: slices.Clone(w.b), n: w.n, literals: texts(literals), distances: texts(distances)}
		try.dynamicHead(last, len(literals), len(distances), 19, ofLengths()).items(ofLengths(), l)
		if try.n%8 == 0 {
			*w = *try
			return w
		}
	}
	panic("no way to end at a byte's end")
}

// same is n times that length.
func same(length, n int) []int {
	return slices.Repeat([]int{length}, n)
}

// lengthsOf has count lengths, all 0 but those that are given, symbol and length in turn.
func lengthsOf(count int, given ...int) []int {
	lengths := same(0, count)
	for i := 0; i < len(given); i += 2 {
		lengths[given[i]] = given[i+1]
	}
	return lengths
}
