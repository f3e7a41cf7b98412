package digest_test

import (
	"slices"
	"strings"
	"testing"
	"unsafe"

	"sluicegate/api"
	"sluicegate/digest"
	"sluicegate/scan"
)

const spare = 40

// isWithin tells whether a text lies in the memory of another one. Texts of one byte may: the language keeps each of them once.
func isWithin(s, of string) bool {
	if len(s) < 2 || of == "" {
		return false
	}
	at, from := uintptr(unsafe.Pointer(unsafe.StringData(s))), uintptr(unsafe.Pointer(unsafe.StringData(of)))
	return at >= from && at < from+uintptr(len(of))
}

const ofAllKinds = "SELECT abc,`b``c` - 12 'd\\'e' <=> @Fgh @@Hij.i (-1,'x'),(2,3) /*! j */ k = -? ; (1,2,3 ;;"

// TestRule4Words leaves the words as they were, keeps none, and neither reads nor writes the spare room behind them.
func TestRule4Words(t *testing.T) {
	was, _ := scan.All(ofAllKinds)
	for n := range len(was) + 1 {
		for _, behind := range list(param(), sign(")"), sign(","), sign("("), sign(";"), word(api.WordNumber, "1"), word(api.WordOdd, "odd")) {
			full := append(slices.Clone(was[:n]), slices.Repeat(list(behind), spare)...)
			l := full[:n]
			wantWords(t, l, plainWords(was[:n])...)
			if !slices.Equal(full[:n], was[:n]) || !slices.Equal(full[n:], slices.Repeat(list(behind), spare)) {
				t.Errorf("what was handed in was changed: %s", brief(full))
			}
		}
	}
}

// TestRule4Apart has answers that share no memory, their spare room neither, with one another and with what was handed in.
func TestRule4Apart(t *testing.T) {
	for _, s := range list(ofAllKinds, "", ";", "a", "select abc", "/*!*/", "(1,2)", "(1)") {
		l, _ := scan.All(s)
		was, want := slices.Clone(l), plainWords(l)
		first, second := digest.Words(l), digest.Words(l)
		for _, w := range first {
			for _, of := range l {
				if isWithin(w.Text, of.Text) {
					t.Errorf("the word %s is in the memory of what was handed in", brief(w.Text))
				}
			}
		}
		first = first[:cap(first)]
		for i := range first {
			first[i] = word(99, "odd")
		}
		if !slices.Equal(second, want) || !slices.Equal(l, was) {
			t.Errorf("Words of %s shares memory: %s, %s", brief(was), brief(second), brief(l))
		}
	}
}

func TestRule4Texts(t *testing.T) {
	for _, s := range list("abc", "a , b", "@`abc`") {
		s = strings.Clone(s)
		if got, _ := digest.Text(s); got != s || isWithin(got, s) {
			t.Errorf("Text of %s: %s, in its memory or not", brief(s), brief(got))
		}
	}
}
