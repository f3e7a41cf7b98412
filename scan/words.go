package scan

import (
	"strings"

	"sluicegate/api"
)

// found is what a text begins with: a word, and how many bytes it has; of size 0, if there is none; or what is wrong with it.
type found struct {
	word api.Word
	size int
	err  api.Errno
}

// gap is the kind of what is no word: of blanks and remarks.
const gap = 0

// next answers what s, which is not empty, begins with; without an error it has bytes.
func next(s string) found {
	if f := blankOrRemark(s); f.size > 0 || f.err != api.OK {
		return f
	}
	// A number is tried ahead of a name, as it counts where both are equally long.
	f := longest(s, oddRemark, number, name, quotedName, quotedText, userVar, systemVar, param, sign)
	if f.size == 0 && f.err == api.OK {
		return found{err: api.ErrByte}
	}
	return f
}

// longest answers the longest word that one of the chain finds at the beginning of s, the first of those that are as long, or the first error.
func longest(s string, chain ...func(s string) found) found {
	var best found
	for _, try := range chain {
		f := try(s)
		if f.err != api.OK {
			return f
		}
		if f.size > best.size {
			best = f
		}
	}
	return best
}

// itself is a word that says the bytes it has. They are copied, so that a word does not hold the whole statement.
func itself(kind int, s string) found {
	return found{word: api.Word{Kind: kind, Text: strings.Clone(s)}, size: len(s)}
}

func name(s string) found {
	size := ahead(s, isOfName)
	if size == ahead(s, isDigit) {
		return found{}
	}
	return found{word: api.Word{Kind: api.WordName, Text: lower(s[:size])}, size: size}
}

func quotedName(s string) found {
	if !hasOneOf(s, "`") {
		return found{}
	}
	return quoted(s, api.WordQuoted, false)
}

func quotedText(s string) found {
	if !hasOneOf(s, `'"`) {
		return found{}
	}
	return quoted(s, api.WordText, true)
}

// userVar has its error, if what is behind the @ has one.
func userVar(s string) found {
	behind, ok := strings.CutPrefix(s, "@")
	if !ok {
		return found{}
	}
	f := longest(behind, name, quotedName, quotedText)
	if f.size == 0 {
		return f
	}
	return found{word: api.Word{Kind: api.WordUser, Text: lower(f.word.Text)}, size: f.size + 1}
}

func systemVar(s string) found {
	behind, ok := strings.CutPrefix(s, "@@")
	if !ok {
		return found{}
	}
	size := ahead(behind, isOfSystem)
	if size == 0 {
		return found{}
	}
	return found{word: api.Word{Kind: api.WordSystem, Text: lower(behind[:size])}, size: size + 2}
}

func param(s string) found {
	if !hasOneOf(s, "?") {
		return found{}
	}
	return found{word: api.Word{Kind: api.WordParam}, size: 1}
}

// longestSign is how many bytes a sign has at most.
const longestSign = 3

func sign(s string) found {
	for size := min(longestSign, len(s)); size > 0; size-- {
		if isSign(s[:size]) {
			return itself(api.WordSign, s[:size])
		}
	}
	return found{}
}

func isSign(s string) bool {
	switch s {
	case "<=>", "<>", "!=", "<=", ">=", ":=", "<<", ">>", "&&", "||", "->", "->>",
		"(", ")", ",", ";", ".", "+", "-", "*", "/", "%", "=", "<", ">", "&", "|", "^", "~", "!", "{", "}", "[", "]", ":":
		return true
	}
	return false
}
