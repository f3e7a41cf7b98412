package scan

import (
	"strings"

	"sluicegate/api"
)

func number(s string) found {
	size := hexSize(s)
	if size == 0 {
		size = decimalSize(s)
	}
	if size == 0 {
		return found{}
	}
	return itself(api.WordNumber, s[:size])
}

// hexSize is how many bytes the hexadecimal number has that s begins with; 0, if there is none.
func hexSize(s string) int {
	digits, ok := strings.CutPrefix(s, "0x")
	if !ok {
		return 0
	}
	size := ahead(digits, isHexDigit)
	if size == 0 {
		return 0
	}
	return len("0x") + size
}

func decimalSize(s string) int {
	size := pointedSize(s)
	if size == 0 {
		return 0
	}
	return size + exponentSize(s[size:])
}

// pointedSize is how many bytes the digits have that s begins with, and the point among them; 0, if there are no digits.
func pointedSize(s string) int {
	whole := ahead(s, isDigit)
	behind, ok := strings.CutPrefix(s[whole:], ".")
	if !ok {
		return whole
	}
	part := ahead(behind, isDigit)
	if whole+part == 0 {
		return 0
	}
	return whole + 1 + part
}

// exponentSize is how many bytes the exponent has that s begins with; 0, if there is none.
func exponentSize(s string) int {
	if !hasOneOf(s, "eE") {
		return 0
	}
	at := 1
	if hasOneOf(s[at:], "+-") {
		at++
	}
	digits := ahead(s[at:], isDigit)
	if digits == 0 {
		return 0
	}
	return at + digits
}
