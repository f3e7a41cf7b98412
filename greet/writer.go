package greet

import (
	"sluicegate/api"
	"sluicegate/lenenc"
)

// writer puts one field behind the other, of what may be: so no field is refused.
type writer struct {
	out []byte
}

// newWriter copies b even where it has spare room itself, as that is the caller's.
func newWriter(b []byte) *writer {
	return &writer{out: append(make([]byte, 0, len(b)), b...)}
}

func (w *writer) raw(field []byte) {
	w.out = append(w.out, field...)
}

func (w *writer) mark(x byte) {
	w.out = append(w.out, x)
}

func (w *writer) zeros(n int) {
	w.raw(make([]byte, n))
}

func (w *writer) fixed(x uint64, n int) {
	field, _ := lenenc.AppendFixed(nil, x, n)
	w.raw(field)
}

func (w *writer) ended(s string) {
	field, _ := lenenc.AppendEnded(nil, s)
	w.raw(field)
}

func (w *writer) text(s string) {
	w.raw(lenenc.AppendText(nil, s))
}

func (w *writer) short(field []byte) {
	w.mark(byte(len(field)))
	w.raw(field)
}

func (w *writer) plugin(c api.Caps, plugin string) {
	if c&api.CapPluginAuth != 0 {
		w.ended(plugin)
	}
}

func (w *writer) attrs(c api.Caps, l []api.Attr) {
	if c&api.CapConnectAttrs == 0 {
		return
	}
	within := newWriter(nil)
	for _, a := range l {
		within.text(a.Name)
		within.text(a.Value)
	}
	w.text(string(within.out))
}
