package scan_test

import (
	"fmt"
	"math/rand"
	"slices"
	"strings"

	"sluicegate/api"
)

func word(kind int, s string) api.Word {
	return api.Word{Kind: kind, Text: s}
}

// placed is a word at a place.
func placed(kind int, s string, at int) api.Word {
	return api.Word{Kind: kind, Text: s, At: at}
}

func name(s string) api.Word {
	return word(api.WordName, s)
}

func quotedName(s string) api.Word {
	return word(api.WordQuoted, s)
}

func text(s string) api.Word {
	return word(api.WordText, s)
}

func number(s string) api.Word {
	return word(api.WordNumber, s)
}

func sign(s string) api.Word {
	return word(api.WordSign, s)
}

func user(s string) api.Word {
	return word(api.WordUser, s)
}

func system(s string) api.Word {
	return word(api.WordSystem, s)
}

func param() api.Word {
	return word(api.WordParam, "")
}

func odd(s string) api.Word {
	return word(api.WordOdd, s)
}

// list is a list that is written out.
func list[T any](l ...T) []T {
	return l
}

// unplaced is words without their places.
func unplaced(l []api.Word) []api.Word {
	l = slices.Clone(l)
	for i := range l {
		l[i].At = 0
	}
	return l
}

// brief is something as a test tells it, cut where it is long.
func brief(x any) string {
	s := fmt.Sprintf("%q", x)
	if l, ok := x.([]api.Word); ok {
		s = "words"
		for _, w := range l[:min(len(l), 20)] {
			s += fmt.Sprintf(" %d:%q@%d", w.Kind, w.Text, w.At)
		}
	}
	if len(s) > 300 {
		return fmt.Sprintf("%s.. (%d)", s[:300], len(s))
	}
	return s
}

// strs is each text of at most n of the pieces, the empty one too.
func strs(n int, pieces ...string) func(yield func(string) bool) {
	return func(yield func(string) bool) {
		var grow func(s string, left int) bool
		grow = func(s string, left int) bool {
			if !yield(s) {
				return false
			}
			if left == 0 {
				return true
			}
			for _, p := range pieces {
				if !grow(s+p, left-1) {
					return false
				}
			}
			return true
		}
		grow("", n)
	}
}

// bytesOf is each byte of a text as a text.
func bytesOf(s string) []string {
	var l []string
	for i := range len(s) {
		l = append(l, s[i:i+1])
	}
	return l
}

// alphabets are small ones, each of the bytes that one part of the chapter is about.
func alphabets() []struct {
	n      int
	pieces []string
} {
	return []struct {
		n      int
		pieces []string
	}{
		{5, bytesOf("01xeE.+a-")},
		{6, bytesOf("0e.+8")},
		{5, bytesOf("0xXfg")},
		{6, bytesOf("'\"`\\a@")},
		{5, bytesOf("/*!+-#\n a")},
		{4, bytesOf("<=>!:-&|*/")},
		{4, bytesOf("\xc3\xa9\xef\xbf\xbd\xed\xa0\x80a1@")},
		{5, bytesOf("@.`aB1\xff")},
		{6, bytesOf("; -a'\n")},
		{3, bytesOf("aEx09.+-@`'\"\\/*!#\n ;<=>:\xff?\x00~(")},
	}
}

// fragments are what texts are drawn of.
func fragments() []string {
	return []string{
		"select", "SELECT ", " from ", "Ab", "é", "日本", "_$", "0x1F", "0XAB", "0x", "1.5e-3", "12", "7", ".5", "1.", "e", "E+", "e9", ".", "..",
		"`", "``", "`a b`", "'", "''", "'it''s'", `"`, `""`, `"x"`, `\`, `\\`, `\'`, `\"`, `\n`, `\%`, "@", "@@", "@x", "@`Y`", "@'Z'", "@@Session.",
		"/*", "*/", "/* r */", "/*!", "/*+ h */", "/**/", "/*/", "#", "# r\n", "--", "-- ", "-- r\n", "--\n", "\n", " ", "\t", "\v", "\f", "\r",
		";", "; ", ",", "(", ")", "<=>", "<", ">", "=", ":=", ":", "->>", "->", "!", "&&", "|", "?", "{", "]", "\x00", "\x01", "\x7f", "\xff", "\xc3", "\xed\xa0\x80", "\ufffd",
	}
}

// drawnText is of some fragments; half of them are of few kinds, so that quotes find their ends.
func drawnText(r *rand.Rand) string {
	var b strings.Builder
	l := fragments()
	if r.Intn(2) == 0 {
		r.Shuffle(len(l), func(i, j int) { l[i], l[j] = l[j], l[i] })
		l = l[:1+r.Intn(6)]
	}
	for range r.Intn(14) {
		b.WriteString(l[r.Intn(len(l))])
	}
	return b.String()
}

// drawnBytes is of any bytes.
func drawnBytes(r *rand.Rand) string {
	b := make([]byte, r.Intn(12))
	for i := range b {
		b[i] = byte(r.Intn(256))
	}
	return string(b)
}

// drawnWord is of any kind, and says anything.
func drawnWord(r *rand.Rand) api.Word {
	w := api.Word{Kind: 1 + r.Intn(9), Text: drawnText(r), At: r.Intn(9)}
	if w.Kind == api.WordParam {
		w.Text = ""
	}
	return w
}
