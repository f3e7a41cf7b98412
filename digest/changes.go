package digest

import (
	"slices"
	"strings"

	"sluicegate/api"
)

// aParam stands for a parameter where words are told by their signs. No sign of a statement says it.
const aParam = "?"

// withParams answers new words, each text and each number a parameter.
func withParams(l []api.Word) []api.Word {
	made := make([]api.Word, len(l))
	for i, w := range l {
		made[i] = withParam(w)
	}
	return made
}

// withParam copies what the word says, as what was handed in is not kept.
func withParam(w api.Word) api.Word {
	if w.Kind == api.WordText || w.Kind == api.WordNumber {
		return api.Word{Kind: api.WordParam, At: w.At}
	}
	return api.Word{Kind: w.Kind, Text: strings.Clone(w.Text), At: w.At}
}

// without takes words out of a slice: goes tells how many of those left go, by which were kept ahead of them.
func without(l []api.Word, goes func(kept, left []api.Word) int) []api.Word {
	to := 0
	for from := 0; from < len(l); {
		if n := goes(l[:to], l[from:]); n > 0 {
			from += n
			continue
		}
		l[to] = l[from]
		to, from = to+1, from+1
	}
	return l[:to]
}

func oddRemark(_, left []api.Word) int {
	if left[0].Kind == api.WordOdd {
		return 1
	}
	return 0
}

// numbersSign is a sign that belongs to the parameter behind it, as nothing is ahead that it could join to it.
func numbersSign(kept, left []api.Word) int {
	alone := len(kept) == 0 || isOneOf(kept[len(kept)-1], "(", ",", "=")
	if alone && isOneOf(left[0], "-", "+") && begin(left[1:], aParam) {
		return 1
	}
	return 0
}

// restOfRow is all of a row of parameters in brackets but the first.
func restOfRow(kept, left []api.Word) int {
	if !end(kept, "(", aParam) {
		return 0
	}
	n := 0
	for begin(left[n:], ",", aParam) {
		n += 2
	}
	if !begin(left[n:], ")") {
		return 0
	}
	return n
}

// likeGroup is one more parameter in brackets behind one in brackets.
func likeGroup(kept, left []api.Word) int {
	if end(kept, "(", aParam, ")") && begin(left, ",", "(", aParam, ")") {
		return 4
	}
	return 0
}

func signsAtEnd(l []api.Word) int {
	n := 0
	for end(l[:len(l)-n], ";") {
		n++
	}
	return n
}

// begin tells whether the first words are some signs and parameters.
func begin(l []api.Word, says ...string) bool {
	if len(l) < len(says) {
		return false
	}
	for i, s := range says {
		if !is(l[i], s) {
			return false
		}
	}
	return true
}

// end tells whether the last words are some signs and parameters.
func end(l []api.Word, says ...string) bool {
	return len(l) >= len(says) && begin(l[len(l)-len(says):], says...)
}

// is tells whether a word is a sign, or a parameter.
func is(w api.Word, says string) bool {
	if says == aParam {
		return w.Kind == api.WordParam
	}
	return w.Kind == api.WordSign && w.Text == says
}

func isOneOf(w api.Word, signs ...string) bool {
	return slices.ContainsFunc(signs, func(s string) bool { return is(w, s) })
}
