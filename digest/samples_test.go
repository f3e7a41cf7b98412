package digest_test

import (
	"fmt"
	"math/rand"
	"strings"

	"sluicegate/api"
)

// placed is a word at a place.
func placed(kind int, s string, at int) api.Word {
	return api.Word{Kind: kind, Text: s, At: at}
}

func word(kind int, s string) api.Word {
	return placed(kind, s, 0)
}

func sign(s string) api.Word {
	return word(api.WordSign, s)
}

func param() api.Word {
	return word(api.WordParam, "")
}

// list is a list that is written out.
func list[T any](l ...T) []T {
	return l
}

// brief is something as a test tells it, cut where it is long.
func brief(x any) string {
	s := fmt.Sprintf("%+q", x)
	if l, ok := x.([]api.Word); ok {
		s = "words"
		for _, w := range l[:min(len(l), 20)] {
			s += fmt.Sprintf(" %d:%q@%d", w.Kind, w.Text, w.At)
		}
	}
	if len(s) > 300 {
		return fmt.Sprintf("%s.. (%d)", s[:300], len(s))
	}
	return s
}

// signs are all that a statement may have.
func signs() []string {
	return strings.Fields("<=> <> != <= >= := << >> && || -> ->> ( ) , ; . + - * / % = < > & | ^ ~ ! { } [ ] :")
}

// rows is each list of at most n of some words, the empty one too, each word with a place of its own. The list is used again.
func rows(n int, words ...api.Word) func(yield func([]api.Word) bool) {
	return func(yield func([]api.Word) bool) {
		l := make([]api.Word, 0, n)
		var grow func() bool
		grow = func() bool {
			if !yield(l) {
				return false
			}
			if len(l) == n {
				return true
			}
			for _, w := range words {
				w.At = 3 * len(l)
				l = append(l, w)
				if !grow() {
					return false
				}
				l = l[:len(l)-1]
			}
			return true
		}
		grow()
	}
}

// families are words of which all short lists are looked at.
func families() []struct {
	n     int
	words []api.Word
} {
	of := func(texts string) []api.Word {
		var l []api.Word
		for _, s := range strings.Fields(texts) {
			l = append(l, ofKind(s))
		}
		return l
	}
	return []struct {
		n     int
		words []api.Word
	}{
		{4, of("( ) , = - + ; . ? 1 'v' a `(` /*!*/ @a @@a")},
		{9, of("( ) , ?")},
		{6, of("( ) , 1 - /*!*/ =")},
		{6, of("- + 'v' ? ( , ;")},
		{9, of("; a /*!*/")},
	}
}

// ofKind is the word of a short text.
func ofKind(s string) api.Word {
	switch s[0] {
	case '?':
		return param()
	case '1':
		return word(api.WordNumber, s)
	case '\'':
		return word(api.WordText, s)
	case 'a':
		return word(api.WordName, s)
	case '`':
		return word(api.WordQuoted, s[1:2])
	case '/':
		return word(api.WordOdd, s)
	case '@':
		if strings.HasPrefix(s, "@@") {
			return word(api.WordSystem, s)
		}
		return word(api.WordUser, s)
	}
	return sign(s)
}

// drawnWord is of any kind, one that is none too, and says anything; most are such as are told apart.
func drawnWord(r *rand.Rand) api.Word {
	says := list("(", ")", ",", "=", "-", "+", ";", "?", "", "1", "a", "(?)", "--", "<=", "\xff")
	w := placed(r.Intn(12)-1, says[r.Intn(len(says))], r.Intn(99)-9)
	switch r.Intn(3) {
	case 0:
		w.Kind, w.Text = api.WordSign, says[r.Intn(7)]
	case 1:
		w.Kind, w.Text = list(api.WordText, api.WordNumber, api.WordParam)[r.Intn(3)], ""
	}
	return w
}

func drawnWords(r *rand.Rand) []api.Word {
	var l []api.Word
	for range r.Intn(16) {
		l = append(l, drawnWord(r))
	}
	return l
}

// fragments are what texts are drawn of.
func fragments() []string {
	return append(signs(), strings.Fields(
		"( ( ( ) ) ) , , , - + = ; ? ? 1 1 -1 +.5 1.5e-3 0x1F 'v' \"w\" 'it''s' select SELECT Ab a `B` `c``d` @a @`B` @'C' @@d @@Session.e /*!1*/ /*+x*/ /*r*/ (1),(2) (1,2) (-1,'v') ,(?) ((1),(2)) 0XAB 1a é 日本",
	)...)
}

// drawnText is of some fragments, with blanks between or not; a few are no statement's.
func drawnText(r *rand.Rand) string {
	l := append(fragments(), "# r\n", "-- r\n", "\t", "\n")
	if r.Intn(20) == 0 {
		l = append(l, "'", "`", "\xff", "@", "/*")
	}
	var b strings.Builder
	for range r.Intn(16) {
		b.WriteString(l[r.Intn(len(l))])
		b.WriteString(strings.Repeat(" ", r.Intn(2)))
	}
	return b.String()
}

func drawnBytes(r *rand.Rand) string {
	b := make([]byte, r.Intn(12))
	for i := range b {
		b[i] = byte(r.Intn(256))
	}
	return string(b)
}
