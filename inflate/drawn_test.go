package inflate_test

import (
	"math/rand"
	"slices"
)

// drawnLengths tells the lengths of a whole code: a leaf is split in two till there are as many as are asked for.
func drawnLengths(r *rand.Rand, symbols []int, count int) []int {
	leaves := []int{0}
	for len(leaves) < len(symbols) {
		i := r.Intn(len(leaves))
		if leaves[i] == 15 {
			i = slices.Index(leaves, slices.Min(leaves))
		}
		leaves[i]++
		leaves = append(leaves, leaves[i])
	}
	lengths := same(0, count)
	for i, symbol := range symbols {
		lengths[symbol] = leaves[i]
	}
	return lengths
}

// drawnItems tells lengths by the symbols that come, repetitions where there may be one and chance says so.
func drawnItems(r *rand.Rand, lengths []int) []item {
	var l []item
	for i := 0; i < len(lengths); {
		run := 1
		for i+run < len(lengths) && lengths[i+run] == lengths[i] {
			run++
		}
		switch way := r.Intn(4); {
		case way == 1 && i > 0 && lengths[i] == lengths[i-1] && run >= 3:
			n := 3 + r.Intn(min(run, 6)-2)
			l = append(l, item{16, n - 3})
			i += n
		case way == 2 && lengths[i] == 0 && run >= 3:
			n := 3 + r.Intn(min(run, 10)-2)
			l = append(l, item{17, n - 3})
			i += n
		case way == 3 && lengths[i] == 0 && run >= 11:
			n := 11 + r.Intn(min(run, 138)-10)
			l = append(l, item{18, n - 11})
			i += n
		default:
			l = append(l, item{lengths[i], 0})
			i++
		}
	}
	return l
}

// drawnBlock puts a block of any kind, with bytes and copies in it, and answers how many bytes were told then.
func drawnBlock(r *rand.Rand, w *writer, last, told int) int {
	literals, distances := r.Perm(256)[:1+r.Intn(20)], r.Perm(30)[:r.Intn(8)]
	copies := r.Perm(29)[:r.Intn(6)]
	switch r.Intn(5) {
	case 0:
		b := make([]byte, r.Intn(40))
		r.Read(b)
		w.stored(last, b)
		return told + len(b)
	case 1:
		w.fixed(last)
		copies, distances = r.Perm(29), r.Perm(30)
	default:
		symbols := append(slices.Clone(literals), 256)
		for _, c := range copies {
			symbols = append(symbols, 257+c)
		}
		l, d := drawnLengths(r, symbols, 257+29*min(1, len(copies))), drawnLengths(r, distances, 30)
		if len(distances) == 1 {
			d[distances[0]] = 1
		}
		w.literals, w.distances = texts(l), texts(d)
		w.dynamicHead(last, len(l), len(d), 19, ofLengths()).items(ofLengths(), drawnItems(r, slices.Concat(l, d)))
	}
	for range r.Intn(30) {
		w.symbols(literals[r.Intn(len(literals))])
		told++
		if len(copies) > 0 && len(distances) > 0 && r.Intn(3) == 0 {
			told += drawnCopy(r, w, copies[r.Intn(len(copies))], distances[r.Intn(len(distances))], told)
		}
	}
	w.end()
	return told
}

// drawnCopy puts a copy by these symbols, if it can stand behind what was told, and answers how many bytes it tells.
func drawnCopy(r *rand.Rand, w *writer, symbol, distance, told int) int {
	length, bits := plainLength(257 + symbol)
	base, more := plainDistance(distance)
	if base > told {
		return 0
	}
	field := r.Intn(1 << bits)
	w.symbols(257+symbol).field(field, bits)
	w.code(w.distances, distance).field(r.Intn(min(1<<more, told-base+1)), more)
	return length + field
}

func drawnStream(r *rand.Rand) (b []byte, told int) {
	w := begin()
	for blocks := 1 + r.Intn(4); blocks > 0; blocks-- {
		last := 0
		if blocks == 1 {
			last = 1
		}
		told = drawnBlock(r, w, last, told)
	}
	return w.bytes(), told
}
