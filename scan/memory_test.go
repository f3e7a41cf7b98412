package scan_test

import (
	"slices"
	"strings"
	"testing"
	"unsafe"

	"sluicegate/api"
	"sluicegate/scan"
)

const spare = 40

// isWithin tells whether a text lies in the memory of another one.
func isWithin(s, of string) bool {
	if s == "" || of == "" {
		return false
	}
	at, from := uintptr(unsafe.Pointer(unsafe.StringData(s))), uintptr(unsafe.Pointer(unsafe.StringData(of)))
	return at >= from && at < from+uintptr(len(of))
}

// wantApart asks that two lists are as they should be and share no memory, their spare room neither.
func wantApart[T comparable](t *testing.T, first, second, want []T, other T) {
	t.Helper()
	if !slices.Equal(first, want) {
		t.Errorf("%s, want %s", brief(first), brief(want))
	}
	full := first[:cap(first)]
	for i := range full {
		full[i] = other
	}
	if !slices.Equal(second, want) {
		t.Errorf("two answers share memory: %s", brief(second))
	}
}

const ofAllKinds = "SELECT a,`b``c` 'd\\'e' 12 0x1F <=> @F @`g` @@H.i ? /*! j */; k ; '' `l`"

// TestRule4Lists are apart from one another.
func TestRule4Lists(t *testing.T) {
	want, _ := plainAll(ofAllKinds)
	first, _ := scan.All(ofAllKinds)
	second, _ := scan.All(ofAllKinds)
	wantApart(t, first, second, want, odd("odd"))
	pieces, _ := plainSplit(ofAllKinds)
	firstPieces, _ := scan.Split(ofAllKinds)
	secondPieces, _ := scan.Split(ofAllKinds)
	wantApart(t, firstPieces, secondPieces, pieces, "odd")
}

// TestRule4Texts are not kept: no word and no piece holds the text that was handed in.
func TestRule4Texts(t *testing.T) {
	s := strings.Clone(ofAllKinds)
	l, _ := scan.All(s)
	for _, w := range l {
		if isWithin(w.Text, s) {
			t.Errorf("the word %s is in the text's memory", brief(w.Text))
		}
	}
	pieces, _ := scan.Split(s)
	for _, p := range pieces {
		if isWithin(p, s) {
			t.Errorf("the piece %s is in the text's memory", brief(p))
		}
	}
	whole := strings.Clone("abc")
	if pieces, _ := scan.Split(whole); len(pieces) != 1 || isWithin(pieces[0], whole) {
		t.Errorf("the only piece: %s", brief(pieces))
	}
	if isWithin(scan.Quote(whole), whole) || isWithin(scan.Plain(list(name(whole))), whole) {
		t.Errorf("what is quoted, or told plainly, is in the text's memory")
	}
}

// TestRule4Plain leaves the words as they were, and neither reads nor writes the spare room behind them.
func TestRule4Plain(t *testing.T) {
	was, _ := plainAll(ofAllKinds)
	for n := range len(was) + 1 {
		l := append(slices.Clone(was[:n]), slices.Repeat(list(odd("odd")), spare)...)[:n]
		wantPlainly(t, l, plainPlain(was[:n]))
		if !slices.Equal(l, was[:n]) || !slices.Equal(l[:n+spare][n:], slices.Repeat(list(odd("odd")), spare)) {
			t.Errorf("what was handed in was changed: %s", brief(l[:n+spare]))
		}
	}
}

// TestRule6NilAndEmpty are one and the same.
func TestRule6NilAndEmpty(t *testing.T) {
	for _, l := range [][]api.Word{nil, {}, make([]api.Word, 0, 3), list(name("a"))[:0]} {
		wantPlainly(t, l, "")
	}
}
