package command

import (
	"sluicegate/api"
	"sluicegate/lenenc"
)

// writer puts one field behind the other, of what may be: so no field is refused.
type writer struct {
	out []byte
}

// newWriter copies b even where it has spare room itself, as that is the caller's.
func newWriter(b []byte) *writer {
	return &writer{out: append(make([]byte, 0, len(b)), b...)}
}

// put writes a command's field.
func (w *writer) put(c api.Command, f field) {
	switch f {
	case fieldText:
		w.out = append(w.out, c.Text...)
	case fieldStmt:
		w.fixed(uint64(c.Stmt), 4)
	case fieldParam:
		w.fixed(uint64(c.Param), 2)
	case fieldFlags:
		w.mark(c.Flags)
	case fieldTimes:
		w.fixed(once, 4)
	case fieldCount:
		w.fixed(uint64(c.Count), 4)
	case fieldOption:
		w.fixed(uint64(c.Option), 2)
	case fieldData:
		w.out = append(w.out, c.Data...)
	}
}

func (w *writer) mark(x byte) {
	w.out = append(w.out, x)
}

func (w *writer) fixed(x uint64, n int) {
	number, _ := lenenc.AppendFixed(nil, x, n)
	w.out = append(w.out, number...)
}
