package deflate

import (
	"sluicegate/api"
)

// triple is what a copy begins with at least.
type triple [api.MinCopy]byte

// finder goes over b from place to place. It keeps, by their triples, the places behind it from which a copy may begin, the farthest first.
type finder struct {
	b      []byte
	at     int
	places map[triple][]int
}

// piece answers the piece that begins where the finder is.
func (f *finder) piece() api.Piece {
	best := api.Piece{Byte: f.b[f.at]}
	t, ok := f.triple(f.at)
	if !ok {
		return best
	}
	places := f.places[t]
	most := min(api.MaxCopy, len(f.b)-f.at)
	// From the nearest one on, as of copies that are equally long the nearest counts.
	for i := len(places) - 1; i >= 0 && best.Len < most; i-- {
		if n := f.alike(places[i], best.Len, most); n > best.Len {
			best = api.Piece{Len: n, Dist: f.at - places[i]}
		}
	}
	return best
}

// triple answers the three bytes that stand at a place, if there are as many.
func (f *finder) triple(place int) (t triple, ok bool) {
	if len(f.b)-place < len(t) {
		return t, false
	}
	return triple{f.b[place], f.b[place+1], f.b[place+2]}, true
}

// alike answers how many bytes, up to most, are the same at an earlier place as where the finder is; 0 if the byte behind some of them is another, as it is at most places of bytes that are much alike.
func (f *finder) alike(place, some, most int) int {
	if f.b[place+some] != f.b[f.at+some] {
		return 0
	}
	n := 0
	for n < most && f.b[place+n] == f.b[f.at+n] {
		n++
	}
	return n
}

// pass moves on by so many bytes.
func (f *finder) pass(count int) {
	for range count {
		f.keep(f.at)
		f.at++
		f.drop(f.at - api.MaxDist - 1)
	}
}

// keep takes a place among those from which a copy may begin.
func (f *finder) keep(place int) {
	if t, ok := f.triple(place); ok {
		f.places[t] = append(f.places[t], place)
	}
}

// drop takes a place away that is too far back now. It is the first of its triple's, as those ahead of it were dropped ahead of it.
func (f *finder) drop(place int) {
	if place < 0 {
		return
	}
	t, _ := f.triple(place)
	if rest := f.places[t][1:]; len(rest) > 0 {
		f.places[t] = rest
	} else {
		delete(f.places, t)
	}
}
