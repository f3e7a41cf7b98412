package digest_test

import (
	"crypto/sha256"
	"encoding/hex"
	"regexp"
	"slices"
	"strings"

	"sluicegate/api"
	"sluicegate/scan"
)

// This file reads the chapter plainly: words are told as one byte each, and what goes of them is what a pattern's group has.

// changes are 1 to 5, in the order of the chapter.
var changes = []*regexp.Regexp{
	regexp.MustCompile(`(o)`),
	regexp.MustCompile(`(?:^|[(,=])([-+])\?`),
	regexp.MustCompile(`\(\?((?:,\?)+)\)`),
	regexp.MustCompile(`\(\?\)((?:,\(\?\))+)`),
	regexp.MustCompile(`(;+)$`),
}

// letters tells each word as one byte: a sign as it stands, if the chapter names it, a parameter as ?, an odd remark as o, all others as x.
func letters(l []api.Word) string {
	var b strings.Builder
	for _, w := range l {
		switch {
		case w.Kind == api.WordParam:
			b.WriteByte('?')
		case w.Kind == api.WordOdd:
			b.WriteByte('o')
		case w.Kind == api.WordSign && len(w.Text) == 1 && strings.Contains("-+(),=;", w.Text):
			b.WriteString(w.Text)
		default:
			b.WriteByte('x')
		}
	}
	return b.String()
}

func plainWords(l []api.Word) []api.Word {
	l = slices.Clone(l)
	for i, w := range l {
		if w.Kind == api.WordText || w.Kind == api.WordNumber {
			l[i] = api.Word{Kind: api.WordParam, At: w.At}
		}
	}
	for _, re := range changes {
		found := re.FindAllStringSubmatchIndex(letters(l), -1)
		slices.Reverse(found)
		for _, m := range found {
			l = slices.Delete(l, m[2], m[3])
		}
	}
	return l
}

func plainText(s string) (string, api.Fault) {
	words, f := scan.All(s)
	if f != (api.Fault{}) {
		return "", f
	}
	var told []string
	for _, w := range plainWords(words) {
		told = append(told, scan.Plain(list(w)))
	}
	return strings.Join(told, " "), api.Fault{}
}

func plainOf(s string) (string, api.Fault) {
	text, f := plainText(s)
	if f != (api.Fault{}) {
		return "", f
	}
	return plainDigest(text), api.Fault{}
}

// plainDigest is that of a digest text.
func plainDigest(text string) string {
	sum := sha256.Sum256([]byte(text))
	return hex.EncodeToString(sum[:])[:16]
}
