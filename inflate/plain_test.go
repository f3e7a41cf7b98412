package inflate_test

import (
	"fmt"
	"slices"

	"sluicegate/api"
)

// plain reads a stream as the chapter's words go, without any of the program: bits are a list, codes are texts of 0 and 1, an error is a panic.
type plain struct {
	bits   []byte
	at     int
	most   int
	out    []byte
	blocks []api.Block
}

func plainly(b []byte, most int) (out []byte, n int, blocks []api.Block, e api.Errno) {
	defer func() {
		if x := recover(); x != nil {
			out, n, blocks, e = nil, 0, nil, x.(api.Errno)
		}
	}()
	if most < 0 {
		return nil, 0, nil, api.ErrArg
	}
	p := &plain{most: most}
	for _, c := range b {
		for i := range 8 {
			p.bits = append(p.bits, c>>i&1)
		}
	}
	for !p.block() {
	}
	return p.out, (p.at + 7) / 8, p.blocks, api.OK
}

func (p *plain) bit() int {
	if p.at == len(p.bits) {
		panic(api.ErrShort)
	}
	p.at++
	return int(p.bits[p.at-1])
}

func (p *plain) field(bits int) int {
	x, worth := 0, 1
	for range bits {
		x += worth * p.bit()
		worth *= 2
	}
	return x
}

func (p *plain) symbol(codes map[string]int) int {
	longest := 0
	for code := range codes {
		longest = max(longest, len(code))
	}
	sofar := ""
	for len(sofar) < longest {
		sofar += fmt.Sprint(p.bit())
		if symbol, ok := codes[sofar]; ok {
			return symbol
		}
	}
	panic(api.ErrBad)
}

func (p *plain) tell(c byte) {
	if len(p.out) == p.most {
		panic(api.ErrLong)
	}
	p.out = append(p.out, c)
}

func (p *plain) block() (last bool) {
	at, told := p.at, len(p.out)
	last = p.bit() == 1
	kind := p.field(2)
	switch kind {
	case 0:
		for p.at%8 != 0 {
			p.bit()
		}
		count, turned := p.field(16), p.field(16)
		if count+turned != 65535 || count&turned != 0 {
			panic(api.ErrBad)
		}
		for range count {
			p.tell(byte(p.field(8)))
		}
	case 1:
		var literals, distances []int
		for symbol := range 288 {
			switch {
			case symbol <= 143, symbol >= 280:
				literals = append(literals, 8)
			case symbol <= 255:
				literals = append(literals, 9)
			default:
				literals = append(literals, 7)
			}
		}
		for range 32 {
			distances = append(distances, 5)
		}
		p.symbols(plainCodes(literals), plainCodes(distances))
	case 2:
		p.symbols(p.dynamic())
	case 3:
		panic(api.ErrBad)
	}
	p.blocks = append(p.blocks, api.Block{Kind: kind, Last: last, At: at, Out: len(p.out) - told})
	return last
}

// plainFullness is the sum of what each code takes of all sequences of 15 bits.
func plainFullness(lengths []int) int {
	total := 0
	for _, length := range lengths {
		if length > 0 {
			total += 1 << (15 - length)
		}
	}
	return total
}

// plainCodes tells the codes as texts, by the words of the chapter on huffman.
func plainCodes(lengths []int) map[string]int {
	codes := map[string]int{}
	next, before := 0, 0
	for length := 1; length <= 15; length++ {
		for symbol, l := range lengths {
			if l != length {
				continue
			}
			next <<= length - before
			before = length
			codes[fmt.Sprintf("%0*b", length, next)] = symbol
			next++
		}
	}
	return codes
}

func (p *plain) dynamic() (literals, distances map[string]int) {
	l := p.field(5) + 257
	if l > 286 {
		panic(api.ErrBad)
	}
	d := p.field(5) + 1
	if d > 30 {
		panic(api.ErrBad)
	}
	n := p.field(4) + 4
	var ofLengths [19]int
	for i, symbol := range []int{16, 17, 18, 0, 8, 7, 9, 6, 10, 5, 11, 4, 12, 3, 13, 2, 14, 1, 15} {
		if i < n {
			ofLengths[symbol] = p.field(3)
		}
	}
	if plainFullness(ofLengths[:]) != 1<<15 {
		panic(api.ErrBad)
	}
	row := p.row(plainCodes(ofLengths[:]), l+d)
	if !plainGood(row[:l], 1) || row[256] == 0 || !plainGood(row[l:], 0) {
		panic(api.ErrBad)
	}
	return plainCodes(row[:l]), plainCodes(row[l:])
}

// plainGood tells whether a code is whole, or has one symbol of 1 bit, or fewer symbols than that, as many as least.
func plainGood(lengths []int, least int) bool {
	some := slices.DeleteFunc(slices.Clone(lengths), func(l int) bool { return l == 0 })
	if len(some) == 0 {
		return least == 0
	}
	return plainFullness(lengths) == 1<<15 || len(some) == 1 && some[0] == 1
}

func (p *plain) row(codes map[string]int, count int) []int {
	var row []int
	for len(row) < count {
		symbol := p.symbol(codes)
		length, more := symbol, 1
		switch symbol {
		case 16:
			if len(row) == 0 {
				panic(api.ErrBad)
			}
			length, more = row[len(row)-1], 3+p.field(2)
		case 17:
			length, more = 0, 3+p.field(3)
		case 18:
			length, more = 0, 11+p.field(7)
		}
		if len(row)+more > count {
			panic(api.ErrBad)
		}
		row = append(row, slices.Repeat([]int{length}, more)...)
	}
	return row
}

func (p *plain) symbols(literals, distances map[string]int) {
	for {
		symbol := p.symbol(literals)
		switch {
		case symbol == 256:
			return
		case symbol < 256:
			p.tell(byte(symbol))
		case symbol > 285:
			panic(api.ErrBad)
		default:
			base, bits := plainLength(symbol)
			length := base + p.field(bits)
			symbol = p.symbol(distances)
			if symbol > 29 {
				panic(api.ErrBad)
			}
			base, bits = plainDistance(symbol)
			distance := base + p.field(bits)
			if distance > len(p.out) {
				panic(api.ErrBad)
			}
			for range length {
				p.tell(p.out[len(p.out)-distance])
			}
		}
	}
}

// plainLength works a symbol's lengths out: from 265 on each four symbols have a bit more than the four ahead, and each symbol begins where the one ahead of it ends.
func plainLength(symbol int) (base, bits int) {
	if symbol == 285 {
		return 258, 0
	}
	base = 3
	for s := 257; ; s++ {
		bits = max(0, (s-261)/4)
		if s == symbol {
			return base, bits
		}
		base += 1 << bits
	}
}

// plainDistance does so of distances: from 4 on each two symbols have a bit more than the two ahead.
func plainDistance(symbol int) (base, bits int) {
	base = 1
	for s := 0; ; s++ {
		bits = max(0, (s-2)/2)
		if s == symbol {
			return base, bits
		}
		base += 1 << bits
	}
}
