package respond

import (
	"strings"

	"sluicegate/api"
	"sluicegate/column"
	"sluicegate/reply"
	"sluicegate/row"
)

// ok reads an OK, of a result or at the end of rows.
func (r *Responder) ok(b []byte, kind int) (api.Part, api.Errno) {
	o, e := reply.ReadOk(b, r.caps)
	if e != api.OK {
		return api.Part{}, e
	}
	r.status = o.Status
	r.settle(o.Status)
	return api.Part{Kind: kind, Ok: o}, api.OK
}

// refusal reads an ERR: whatever was answered ahead, it is the last packet.
func (r *Responder) refusal(b []byte) (api.Part, api.Errno) {
	x, e := reply.ReadErr(b)
	if e != api.OK {
		return api.Part{}, e
	}
	r.end()
	return api.Part{Kind: api.PartErr, Err: x}, api.OK
}

// eof reads an EOF. What comes behind it, its caller sets.
func (r *Responder) eof(b []byte, kind int) (api.Part, api.Errno) {
	f, e := reply.ReadEof(b)
	if e != api.OK {
		return api.Part{}, e
	}
	r.status = f.Status
	return api.Part{Kind: kind, Eof: f}, api.OK
}

// wanted reads that a file is asked for.
func (r *Responder) wanted(b []byte) (api.Part, api.Errno) {
	if _, e := reply.ReadFile(b); e != api.OK {
		return api.Part{}, e
	}
	r.file = true
	r.await(r.outcome, true)
	return api.Part{Kind: api.PartFile}, api.OK
}

// count reads how many columns a result has: those of the result ahead are its columns no more.
func (r *Responder) count(b []byte) (api.Part, api.Errno) {
	n, e := column.ReadCount(b)
	if e != api.OK {
		return api.Part{}, e
	}
	r.left, r.columns, r.types = n, nil, nil
	r.await(r.resultColumn, false)
	return api.Part{Kind: api.PartCount}, api.OK
}

// column reads one of those that come.
func (r *Responder) column(b []byte) (api.Column, api.Part, api.Errno) {
	c, e := column.Read(b)
	if e != api.OK {
		return api.Column{}, api.Part{}, e
	}
	r.left--
	return c, api.Part{Kind: api.PartColumn}, api.OK
}

// note adds a column to those that the responder has.
func (r *Responder) note(c api.Column) {
	r.columns = append(r.columns, c)
	if r.binary {
		r.types = append(r.types, api.Typed{Type: c.Type, Unsigned: c.Flags&api.FlagUnsigned != 0})
	}
}

// values reads a row, of which nothing is told but that it is one.
func (r *Responder) values(b []byte) (api.Part, api.Errno) {
	if e := r.valuesError(b); e != api.OK {
		return api.Part{}, e
	}
	return api.Part{Kind: api.PartRow}, api.OK
}

func (r *Responder) valuesError(b []byte) api.Errno {
	if r.binary {
		_, e := row.ReadBinary(b, r.types)
		return e
	}
	_, e := row.ReadText(b, len(r.columns))
	return e
}

// owned is a column whose texts are in memory of their own.
func owned(c api.Column) api.Column {
	for _, s := range []*string{&c.Schema, &c.Table, &c.OrgTable, &c.Name, &c.OrgName} {
		*s = strings.Clone(*s)
	}
	return c
}
