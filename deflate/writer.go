package deflate

import (
	"sluicegate/api"
	"sluicegate/huffman"
	"sluicegate/inflate"
)

// The head of a fixed block that is the last one.
const (
	last      = 1
	fixedKind = 1
)

// The symbols of the literal code that are no bytes.
const (
	endOfBlock   = 256
	firstCopy    = 257
	greatestCopy = 285
)

// How many symbols in a row have fields of the same number of bits.
const (
	alikeLengths   = 4
	alikeDistances = 2
)

// code is a prefix code: each symbol's number of bits, and the bits.
type code struct {
	lengths, codes []int
}

// codeOf has no error to tell: the lengths of the fixed codes are fine.
func codeOf(lengths []int) code {
	codes, _ := huffman.Codes(lengths)
	return code{lengths, codes}
}

// writer puts bits one behind the other, from the lowest one of the first byte on; the last byte's further bits are 0.
type writer struct {
	b    []byte
	bits int
}

// bit puts the lowest bit of x.
func (w *writer) bit(x int) {
	if w.bits%8 == 0 {
		w.b = append(w.b, 0)
	}
	w.b[w.bits/8] |= byte(x&1) << (w.bits % 8)
	w.bits++
}

// field puts a number, its lowest bit first.
func (w *writer) field(x, bits int) {
	for i := range bits {
		w.bit(x >> i)
	}
}

// symbol puts a symbol's code, its highest bit first.
func (w *writer) symbol(c code, symbol int) {
	for i := c.lengths[symbol] - 1; i >= 0; i-- {
		w.bit(c.codes[symbol] >> i)
	}
}

// blockWriter puts the pieces of a fixed block.
type blockWriter struct {
	writer
	literals, distances code
}

// fixedStream answers the fixed stream of pieces that have no error.
func fixedStream(l []api.Piece) []byte {
	literals, distances := inflate.Fixed()
	w := &blockWriter{literals: codeOf(literals), distances: codeOf(distances)}
	w.field(last, 1)
	w.field(fixedKind, 2)
	for _, p := range l {
		w.piece(p)
	}
	w.symbol(w.literals, endOfBlock)
	return w.b
}

func (w *blockWriter) piece(p api.Piece) {
	if p.Len == 0 {
		w.symbol(w.literals, int(p.Byte))
		return
	}
	w.length(p.Len)
	w.within(w.distances, 0, p.Dist-1, alikeDistances)
}

// length puts how long a copy is. The greatest length has a symbol of its own; by the one ahead of that it would take a field more.
func (w *blockWriter) length(n int) {
	if n == api.MaxCopy {
		w.symbol(w.literals, greatestCopy)
		return
	}
	w.within(w.literals, firstCopy, n-api.MinCopy, alikeLengths)
}

// within puts a number from 0 on by a symbol and its field. From the symbol first on each stands for as many numbers as its field tells apart, those that follow the ones of the symbol ahead; the fields have no bits twice for alike symbols, then one bit more for each alike symbols.
func (w *blockWriter) within(c code, first, x, alike int) {
	symbol, bits := 0, 0
	for x >= 1<<bits {
		x -= 1 << bits
		symbol++
		bits = max(0, symbol/alike-1)
	}
	w.symbol(c, first+symbol)
	w.field(x, bits)
}
