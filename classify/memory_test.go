package classify_test

import (
	"maps"
	"slices"
	"strings"
	"testing"
	"unsafe"

	"sluicegate/api"
	"sluicegate/classify"
	"sluicegate/scan"
)

const spare = 40

// isWithin tells whether a text lies in the memory of another one. Texts of one byte may: the language keeps each of them once.
func isWithin(s, of string) bool {
	if len(s) < 2 || of == "" {
		return false
	}
	at, from := uintptr(unsafe.Pointer(unsafe.StringData(s))), uintptr(unsafe.Pointer(unsafe.StringData(of)))
	return at >= from && at < from+uintptr(len(of))
}

// longNames are statements whose names and values have more than a byte.
func longNames() []string {
	return list("set session abc = def", "set `abc` = 'def'", "set @@abc = `def`", "set @@session.abc = 12", "set names def", "set @abc = 'def'", "set @abc = -12", "use abc", "create temporary table abc", "create temporary table abc.def (x int)",
		"drop temporary table abc", "lock tables abc read", "select get_lock('abc', 5)")
}

// TestRule4Of tells lists of their own, and keeps nothing of the text.
func TestRule4Of(t *testing.T) {
	s := strings.Join(append(slices.Sorted(maps.Keys(statements())), longNames()...), ";")
	want, _ := plainOf(s)
	first, _ := classify.Of(s)
	second, _ := classify.Of(s)
	for _, c := range first {
		if isWithin(c.Name, s) || isWithin(c.Value, s) {
			t.Errorf("the class %s is in the text's memory", brief(c))
		}
	}
	full := first[:cap(first)]
	for i := range full {
		full[i] = kind(99)
	}
	if !slices.Equal(second, want) {
		t.Errorf("two answers share memory: %s", brief(second))
	}
}

// TestRule4One leaves the words as they were, keeps none, and neither reads nor writes the spare room behind them.
func TestRule4One(t *testing.T) {
	for _, s := range append(slices.Sorted(maps.Keys(statements())), longNames()...) {
		words, _ := scan.All(s)
		for n := range len(words) + 1 {
			for _, behind := range list(sign(";"), name("do"), name("work"), name("to"), sign(".")) {
				l := append(slices.Clone(words[:n]), slices.Repeat(list(behind), spare)...)[:n]
				got := classify.One(l)
				if want := plainOne(words[:n]); got != want {
					t.Errorf("One of %s: %s, want %s", brief(l), brief(got), brief(want))
				}
				if !slices.Equal(l, words[:n]) || !slices.Equal(l[:n+spare][n:], slices.Repeat(list(behind), spare)) {
					t.Errorf("what was handed in was changed: %s", brief(l[:n+spare]))
				}
				for _, w := range l {
					if isWithin(got.Name, w.Text) || isWithin(got.Value, w.Text) {
						t.Errorf("One of %s tells memory that was handed in", brief(l))
					}
				}
			}
		}
	}
}

func TestRule4Anew(t *testing.T) {
	for _, c := range list(set("names", strings.Clone("abc")), set(strings.Clone("abc"), strings.Clone("abc")), named(api.ClassUse, strings.Clone("abc"))) {
		if s, _ := classify.Anew(c); isWithin(c.Name, s) || isWithin(c.Value, s) || isWithin(s, c.Name) {
			t.Errorf("Anew of %s tells memory that was handed in", brief(c))
		}
	}
}
