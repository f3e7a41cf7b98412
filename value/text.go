package value

import (
	"strconv"
	"strings"

	"sluicegate/api"
)

// textOf leans on v being one that may be of the type, and that has a text.
func textOf(v api.Value, t api.Typed) string {
	switch v.Kind {
	case api.ValueInt:
		return strconv.FormatInt(v.Int, 10)
	case api.ValueUint:
		return strconv.FormatUint(v.Bits, 10)
	case api.ValueDate:
		return dateText(v.When, t.Type)
	case api.ValueTime:
		return timeText(v.When)
	}
	return v.Text
}

func dateText(w api.When, t byte) string {
	day := padded(w.Year, 4) + "-" + padded(w.Month, 2) + "-" + padded(w.Day, 2)
	if t == api.TypeDate {
		return day
	}
	return day + " " + padded(w.Hour, 2) + ":" + minuteText(w)
}

func timeText(w api.When) string {
	span := padded(24*w.Day+w.Hour, 2) + ":" + minuteText(w)
	if w.Neg {
		return "-" + span
	}
	return span
}

// minuteText is what stands behind the hours.
func minuteText(w api.When) string {
	s := padded(w.Minute, 2) + ":" + padded(w.Second, 2)
	if w.Micro == 0 {
		return s
	}
	return s + "." + padded(w.Micro, 6)
}

// padded is a number in n digits, or in more, if it needs them.
func padded(x, n int) string {
	s := strconv.Itoa(x)
	return strings.Repeat("0", max(0, n-len(s))) + s
}

// guess answers the one value that may have the text s, if any has: whether it is so, its own text tells.
func guess(s string, t api.Typed) api.Value {
	v := api.Value{Kind: Kind(t)}
	switch v.Kind {
	case api.ValueInt:
		v.Int, _ = strconv.ParseInt(s, 10, 64)
	case api.ValueUint:
		v.Bits, _ = strconv.ParseUint(s, 10, 64)
	case api.ValueDate:
		v.When = guessDate(s)
	case api.ValueTime:
		v.When = guessTime(s)
	case api.ValueText:
		v.Text = s
	}
	return v
}

func guessDate(s string) (w api.When) {
	p := &parts{left: s}
	w.Year, w.Month, w.Day, w.Hour = p.next(4), p.next(2), p.next(2), p.next(2)
	w.Minute, w.Second, w.Micro = p.next(2), p.next(2), p.next(6)
	return w
}

func guessTime(s string) (w api.When) {
	span, neg := strings.CutPrefix(s, "-")
	p := &parts{left: span}
	hours := p.next(strings.Index(span, ":"))
	w.Neg, w.Day, w.Hour = neg, hours/24, hours%24
	w.Minute, w.Second, w.Micro = p.next(2), p.next(2), p.next(6)
	return w
}

// parts reads a text's numbers one behind the other.
type parts struct {
	left string
}

// next answers the number of n bytes, 0 if it is none or left out, and passes over them and over the sign behind them, whatever it is.
func (p *parts) next(n int) int {
	if n < 0 || n > len(p.left) {
		return 0
	}
	x, _ := strconv.Atoi(p.left[:n])
	p.left = p.left[min(n+1, len(p.left)):]
	return x
}
