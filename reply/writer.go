package reply

import "sluicegate/lenenc"

// writer puts one field behind the other, of what may be: so no field is refused.
type writer struct {
	out []byte
}

// newWriter copies b even where it has spare room itself, as that is the caller's.
func newWriter(b []byte) *writer {
	return &writer{out: append(make([]byte, 0, len(b)), b...)}
}

func (w *writer) mark(x byte) {
	w.out = append(w.out, x)
}

func (w *writer) raw(s string) {
	w.out = append(w.out, s...)
}

func (w *writer) fixed(x uint64, n int) {
	field, _ := lenenc.AppendFixed(nil, x, n)
	w.out = append(w.out, field...)
}

func (w *writer) number(x uint64) {
	w.out = append(w.out, lenenc.AppendInt(nil, x)...)
}

func (w *writer) text(s string) {
	w.out = append(w.out, lenenc.AppendText(nil, s)...)
}
