package scan_test

import (
	"regexp"
	"slices"
	"strings"
	"unicode/utf8"

	"sluicegate/api"
)

// This file reads the chapter plainly: each kind of words is a pattern, and what a word says is told by replacing.

const (
	blank  = `[\x09-\x0d\x20]`
	letter = `[A-Za-z_$\x{80}-\x{10FFFF}]`
)

type pattern struct {
	kind int
	re   *regexp.Regexp // its first group is the word
}

func matching(kind int, s string) pattern {
	re := regexp.MustCompile(`(?s)^(` + s + `)`)
	re.Longest()
	return pattern{kind, re}
}

var (
	// A quote that ends a word has none behind it: it would be doubled.
	namePattern   = matching(api.WordName, `[0-9]*`+letter+`(?:`+letter+`|[0-9])*`)
	quotedPattern = ending(api.WordQuoted, "`(?:[^`]|``)*`", "[^`]")
	singlePattern = ending(api.WordText, `'(?:[^'\\]|\\.|'')*'`, `[^']`)
	doublePattern = ending(api.WordText, `"(?:[^"\\]|\\.|"")*"`, `[^"]`)
	wordPatterns  = []pattern{
		matching(api.WordNumber, `(?:[0-9]+(?:\.[0-9]*)?|\.[0-9]+)(?:[eE][+-]?[0-9]+)?|0x[0-9A-Fa-f]+`),
		namePattern, quotedPattern, singlePattern, doublePattern,
		matching(api.WordSystem, `@@(?:`+letter+`|[0-9.])+`),
		matching(api.WordParam, `\?`),
		matching(api.WordSign, signPattern()),
	}
	blankPattern  = regexp.MustCompile(`^` + blank + `+`)
	linePattern   = regexp.MustCompile(`^(?:#|--[\x09\x0b-\x0d\x20])[^\n]*|^--\n`)
	remarkPattern = regexp.MustCompile(`(?s)^/\*.*?\*/`)
	oddBegin      = regexp.MustCompile(`^/\*[!+]`)
	quoteBegin    = regexp.MustCompile("^@?[`'\"]")
	great         = regexp.MustCompile(`[A-Z]`)
)

func ending(kind int, s, behind string) pattern {
	return pattern{kind, regexp.MustCompile(`(?s)^(` + s + `)(?:` + behind + `|$)`)}
}

// signs are those that the chapter lists.
func signs() []string {
	return strings.Fields(`<=> <> != <= >= := << >> && || -> ->> ( ) , ; . + - * / % = < > & | ^ ~ ! { } [ ] :`)
}

func signPattern() string {
	var l []string
	for _, s := range signs() {
		l = append(l, regexp.QuoteMeta(s))
	}
	return strings.Join(l, "|")
}

// masked is a text of which each byte that is of no valid rune is a byte 1, which begins no word either.
func masked(text string) string {
	b := []byte(text)
	for at := 0; at < len(text); {
		r, n := utf8.DecodeRuneInString(text[at:])
		if r == utf8.RuneError && n == 1 {
			b[at] = 1
		}
		at += n
	}
	return string(b)
}

func plainAll(text string) ([]api.Word, api.Fault) {
	if len(text) > 1_048_576 {
		return nil, api.Fault{Err: api.ErrLong, At: -1}
	}
	var l []api.Word
	m := masked(text)
	for at := 0; at < len(text); {
		n, isWord, e := plainPiece(m[at:])
		if e != api.OK {
			return nil, api.Fault{Err: e, At: at}
		}
		if isWord != 0 {
			l = append(l, api.Word{Kind: isWord, Text: plainSays(isWord, text[at:at+n]), At: at})
		}
		at += n
	}
	return l, api.Fault{}
}

// plainPiece is what a text begins with: how many bytes, and of which kind of words, 0 of blanks and remarks.
func plainPiece(s string) (n, kind int, e api.Errno) {
	if m := blankPattern.FindString(s) + linePattern.FindString(s); m != "" {
		return len(m), 0, api.OK
	}
	if strings.HasPrefix(s, "/*") {
		n = len(remarkPattern.FindString(s))
		switch {
		case n == 0:
			return 0, 0, api.ErrQuote
		case oddBegin.MatchString(s):
			return n, api.WordOdd, api.OK
		}
		return n, 0, api.OK
	}
	n, kind = best(s, wordPatterns...)
	if user, _ := best(strings.TrimPrefix(s, "@"), namePattern, quotedPattern, singlePattern, doublePattern); s[0] == '@' && user > 0 {
		n, kind = 1+user, api.WordUser
	}
	switch {
	case n > 0:
		return n, kind, api.OK
	case quoteBegin.MatchString(s):
		return 0, 0, api.ErrQuote
	}
	return 0, 0, api.ErrByte
}

// best is the longest match, the first of those that are as long.
func best(s string, l ...pattern) (n, kind int) {
	for _, p := range l {
		if m := p.re.FindStringSubmatch(s); m != nil && len(m[1]) > n {
			n, kind = len(m[1]), p.kind
		}
	}
	return n, kind
}

func plainSays(kind int, s string) string {
	switch kind {
	case api.WordName:
		return small(s)
	case api.WordQuoted:
		return strings.ReplaceAll(s[1:len(s)-1], "``", "`")
	case api.WordText:
		return escapes(s[:1]).Replace(s[1 : len(s)-1])
	case api.WordUser:
		switch s[1] {
		case '`':
			return small(plainSays(api.WordQuoted, s[1:]))
		case '\'', '"':
			return small(plainSays(api.WordText, s[1:]))
		}
		return small(s[1:])
	case api.WordSystem:
		return small(s[2:])
	case api.WordParam:
		return ""
	}
	return s
}

func small(s string) string {
	return great.ReplaceAllStringFunc(s, strings.ToLower)
}

var escapesOf = map[string]*strings.Replacer{"'": newEscapes("'"), `"`: newEscapes(`"`)}

// escapes replaces all that a text between such quotes says otherwise.
func escapes(quote string) *strings.Replacer {
	return escapesOf[quote]
}

func newEscapes(quote string) *strings.Replacer {
	l := []string{quote + quote, quote}
	for x := range 256 {
		l = append(l, `\`+string([]byte{byte(x)}), escaped(byte(x)))
	}
	return strings.NewReplacer(l...)
}

// escaped is what a backslash and a byte say.
func escaped(x byte) string {
	if s, ok := map[byte]string{'0': "\x00", 'n': "\x0a", 't': "\x09", 'r': "\x0d", 'b': "\x08", 'Z': "\x1a", '%': `\%`, '_': `\_`}[x]; ok {
		return s
	}
	return string([]byte{x})
}

func plainSplit(text string) ([]string, api.Fault) {
	l, f := plainAll(text)
	if f != (api.Fault{}) {
		return nil, f
	}
	var pieces []string
	isEnd := func(w api.Word) bool { return w.Kind == api.WordSign && w.Text == ";" }
	for from, left := 0, l; ; {
		i := slices.IndexFunc(left, isEnd)
		if i < 0 {
			if len(left) > 0 {
				pieces = append(pieces, text[from:])
			}
			return pieces, api.Fault{}
		}
		if i > 0 {
			pieces = append(pieces, text[from:left[i].At])
		}
		from, left = left[i].At+1, left[i+1:]
	}
}

func plainQuote(s string) string {
	return "'" + strings.NewReplacer("'", "''", `\`, `\\`).Replace(s) + "'"
}

func plainPlain(l []api.Word) string {
	var told []string
	for _, w := range l {
		name := "`" + strings.ReplaceAll(w.Text, "`", "``") + "`"
		told = append(told, map[int]string{
			api.WordName: w.Text, api.WordQuoted: name, api.WordText: plainQuote(w.Text), api.WordNumber: w.Text, api.WordSign: w.Text,
			api.WordUser: "@" + name, api.WordSystem: "@@" + w.Text, api.WordParam: "?", api.WordOdd: w.Text,
		}[w.Kind])
	}
	return strings.Join(told, " ")
}
