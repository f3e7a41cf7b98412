package scan

import (
	"strings"
	"unicode/utf8"
)

// firstLetterBeyond is the first rune beyond those of one byte: from it on all are letters.
const firstLetterBeyond = 128

// ahead is how many bytes the runes have that s begins with and that belong. A wrong rune belongs nowhere: a range tells it as a rune that may also stand there rightly, so its width must be asked for.
func ahead(s string, belongs func(r rune) bool) int {
	for at, r := range s {
		if !belongs(r) || r == utf8.RuneError && width(s[at:]) == 1 {
			return at
		}
	}
	return len(s)
}

func width(s string) int {
	_, n := utf8.DecodeRuneInString(s)
	return n
}

func isLetter(r rune) bool {
	return r >= 'a' && r <= 'z' || r >= 'A' && r <= 'Z' || r == '_' || r == '$' || r >= firstLetterBeyond
}

func isDigit(r rune) bool {
	return r >= '0' && r <= '9'
}

func isHexDigit(r rune) bool {
	return isDigit(r) || r >= 'a' && r <= 'f' || r >= 'A' && r <= 'F'
}

func isOfName(r rune) bool {
	return isLetter(r) || isDigit(r)
}

func isOfSystem(r rune) bool {
	return isOfName(r) || r == '.'
}

func isBlank(c byte) bool {
	return c >= 9 && c <= 13 || c == 32
}

// lower is s with A to Z as a to z. It goes byte by byte, as s may have bytes that are no runes.
func lower(s string) string {
	b := []byte(s)
	for i, c := range b {
		if c >= 'A' && c <= 'Z' {
			b[i] = c - 'A' + 'a'
		}
	}
	return string(b)
}

// hasOneOf tells whether s begins with one of some bytes.
func hasOneOf(s, some string) bool {
	return s != "" && strings.IndexByte(some, s[0]) >= 0
}
