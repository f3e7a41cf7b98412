package scan

import "sluicegate/api"

// quoted answers the word of a kind from the quote on with which s begins up to the next one that is not doubled, nor, with escapes, behind a backslash.
func quoted(s string, kind int, escapes bool) found {
	quote := s[0]
	var says []byte
	for i := 1; i < len(s); i++ {
		more := i+1 < len(s)
		switch {
		case s[i] == '\\' && escapes && more:
			i++
			says = appendEscaped(says, s[i])
		case s[i] != quote:
			says = append(says, s[i])
		case more && s[i+1] == quote:
			i++
			says = append(says, quote)
		default:
			return found{word: api.Word{Kind: kind, Text: string(says)}, size: i + 1}
		}
	}
	return found{err: api.ErrQuote}
}

// appendEscaped answers b with what a backslash and c say behind it.
func appendEscaped(b []byte, c byte) []byte {
	switch c {
	case '0':
		return append(b, 0)
	case 'n':
		return append(b, '\n')
	case 't':
		return append(b, '\t')
	case 'r':
		return append(b, '\r')
	case 'b':
		return append(b, '\b')
	case 'Z':
		return append(b, 26)
	case '%', '_':
		return append(b, '\\', c)
	}
	return append(b, c)
}
