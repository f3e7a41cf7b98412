package classify

import (
	"slices"
	"strings"

	"sluicegate/api"
)

// walk is what is left of a statement's words, and the name and the value that were passed over. Its methods pass over what they are asked for and tell whether they went: over all of that, or over nothing.
type walk struct {
	left        []api.Word
	name, value string
}

func over(l []api.Word) *walk {
	return &walk{left: l}
}

// found answers a class with the name and the value that were passed over, if all went well. They are copied, as a class may outlive the words.
func (w *walk) found(kind int, well bool) (api.Class, bool) {
	if !well {
		return api.Class{}, false
	}
	return api.Class{Kind: kind, Name: strings.Clone(w.name), Value: strings.Clone(w.value)}, true
}

// end tells whether nothing is left.
func (w *walk) end() bool {
	return len(w.left) == 0
}

// together passes over what one step behind the other passes over.
func (w *walk) together(steps func(w *walk) bool) bool {
	behind := *w
	if !steps(&behind) {
		return false
	}
	*w = behind
	return true
}

// names passes over names without quotes.
func (w *walk) names(says ...string) bool {
	if !begins(w.left, says...) {
		return false
	}
	w.left = w.left[len(says):]
	return true
}

// perhaps passes over names without quotes if they are there, and is well in any case.
func (w *walk) perhaps(says ...string) bool {
	w.names(says...)
	return true
}

func (w *walk) sign(says string) bool {
	if len(w.left) == 0 || !isSign(w.left[0], says) {
		return false
	}
	w.left = w.left[1:]
	return true
}

// word passes over a word of one of some kinds, and puts what it says at a place.
func (w *walk) word(says *string, kinds ...int) bool {
	if len(w.left) == 0 || !slices.Contains(kinds, w.left[0].Kind) {
		return false
	}
	*says = w.left[0].Text
	w.left = w.left[1:]
	return true
}

func (w *walk) number() bool {
	var says string
	return w.word(&says, api.WordNumber)
}

// named passes over a name, in quotes or not.
func (w *walk) named() bool {
	return w.word(&w.name, api.WordName, api.WordQuoted)
}

// table passes over a table's name, and its schema's ahead of it, if it has one.
func (w *walk) table() bool {
	if !w.named() {
		return false
	}
	schema := w.name
	if w.together(func(w *walk) bool { return w.sign(".") && w.named() }) {
		w.name = schema + "." + w.name
	}
	return true
}

// variable passes over a session's variable by its name, its scope ahead of it or not.
func (w *walk) variable() bool {
	return w.together(func(w *walk) bool { return (w.names("session") || w.perhaps("local")) && w.named() })
}

// system passes over a system variable that is a session's.
func (w *walk) system() bool {
	return w.together(func(w *walk) bool { return w.word(&w.name, api.WordSystem) && w.unscoped() })
}

// unscoped takes the session's scope off the name, and tells whether a name is left.
func (w *walk) unscoped() bool {
	name, ok := strings.CutPrefix(w.name, "session.")
	if !ok {
		name = strings.TrimPrefix(w.name, "local.")
	}
	w.name = name
	// A name has a letter, and no point: one with a point is of another scope, or a part of something.
	return strings.Trim(name, "0123456789") != "" && !strings.Contains(name, ".")
}

// literal passes over a text, a number, with a sign ahead of it or not, or a name.
func (w *walk) literal() bool {
	return w.word(&w.value, api.WordText, api.WordNumber, api.WordName, api.WordQuoted) || w.signed("+") || w.signed("-")
}

func (w *walk) signed(sign string) bool {
	if !w.together(func(w *walk) bool { return w.sign(sign) && w.word(&w.value, api.WordNumber) }) {
		return false
	}
	w.value = sign + w.value
	return true
}

// begins tells whether the first words are some names without quotes.
func begins(l []api.Word, says ...string) bool {
	if len(l) < len(says) {
		return false
	}
	for i, s := range says {
		if l[i].Kind != api.WordName || l[i].Text != s {
			return false
		}
	}
	return true
}

// ends tells whether the last words are some names without quotes.
func ends(l []api.Word, says ...string) bool {
	return len(l) >= len(says) && begins(l[len(l)-len(says):], says...)
}

func isSign(w api.Word, says string) bool {
	return w.Kind == api.WordSign && w.Text == says
}
