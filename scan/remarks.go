package scan

import (
	"strings"

	"sluicegate/api"
)

const (
	remarkOpens  = "/*"
	remarkCloses = "*/"
)

// blankOrRemark answers what s begins with that is passed over.
func blankOrRemark(s string) found {
	switch {
	case isBlank(s[0]):
		return found{size: 1}
	case opensLine(s):
		return found{size: lineSize(s)}
	case strings.HasPrefix(s, remarkOpens) && !opensOdd(s):
		return remark(s)
	}
	return found{}
}

// opensLine tells whether a remark begins that goes up to the line's end.
func opensLine(s string) bool {
	return s[0] == '#' || len(s) > 2 && s[:2] == "--" && isBlank(s[2])
}

func lineSize(s string) int {
	if size := strings.IndexByte(s, '\n'); size >= 0 {
		return size
	}
	return len(s)
}

func oddRemark(s string) found {
	if !opensOdd(s) {
		return found{}
	}
	f := remark(s)
	if f.err != api.OK {
		return f
	}
	return itself(api.WordOdd, s[:f.size])
}

func opensOdd(s string) bool {
	return strings.HasPrefix(s, remarkOpens+"!") || strings.HasPrefix(s, remarkOpens+"+")
}

// remark answers how many bytes the remark has that s opens with. What closes it is behind what opens it: they have no byte together.
func remark(s string) found {
	inside := strings.Index(s[len(remarkOpens):], remarkCloses)
	if inside < 0 {
		return found{err: api.ErrQuote}
	}
	return found{size: len(remarkOpens) + inside + len(remarkCloses)}
}
