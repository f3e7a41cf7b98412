package respond

import (
	"sluicegate/api"
	"sluicegate/reply"
)

// begin sets what comes first.
func (r *Responder) begin(cols []api.Column) {
	switch r.answer {
	case api.AnswerNone:
		r.end()
	case api.AnswerErr:
		r.await(r.refusal, true)
	case api.AnswerOk:
		r.await(r.outcome, true)
	case api.AnswerEof:
		r.await(r.optionSet, true)
	case api.AnswerText:
		r.await(r.text, true)
	case api.AnswerResult:
		r.await(r.result, true)
	case api.AnswerPrepare:
		r.await(r.prepared, true)
	case api.AnswerRows:
		for _, c := range cols {
			r.note(owned(c))
		}
		r.await(r.row, true)
	}
}

// await sets what comes next, and whether an ERR may come in its place.
func (r *Responder) await(next state, may bool) {
	r.next, r.may = next, may
}

func (r *Responder) end() {
	r.await(nil, false)
}

// settle goes on to another result, where a status says that one comes, or ends the answer.
func (r *Responder) settle(status uint16) {
	if r.answer == api.AnswerResult && status&api.StatusMoreResults != 0 {
		r.await(r.result, true)
		return
	}
	r.end()
}

// outcome: an OK or an ERR.
func (r *Responder) outcome(b []byte) (api.Part, api.Errno) {
	switch reply.First(b, r.caps) {
	case api.KindOk:
		return r.ok(b, api.PartOk)
	case api.KindErr:
		return r.refusal(b)
	}
	return api.Part{}, api.ErrBad
}

// optionSet: an EOF, whatever the capabilities, or an OK or an ERR.
func (r *Responder) optionSet(b []byte) (api.Part, api.Errno) {
	if reply.Last(b, r.caps&^api.CapDeprecateEOF) != api.KindEof {
		return r.outcome(b)
	}
	p, e := r.eof(b, api.PartEof)
	r.end()
	return p, e
}

// text: an ERR, or any bytes.
func (r *Responder) text(b []byte) (api.Part, api.Errno) {
	switch {
	case len(b) == 0:
		return api.Part{}, api.ErrBad
	case reply.First(b, r.caps) == api.KindErr:
		return r.refusal(b)
	}
	r.end()
	return api.Part{Kind: api.PartText}, api.OK
}

// result: the first packet of one.
func (r *Responder) result(b []byte) (api.Part, api.Errno) {
	switch reply.First(b, r.caps) {
	case api.KindOk:
		return r.ok(b, api.PartOk)
	case api.KindErr:
		return r.refusal(b)
	case api.KindFile:
		return r.wanted(b)
	}
	return r.count(b)
}

// resultColumn: one of a result's columns.
func (r *Responder) resultColumn(b []byte) (api.Part, api.Errno) {
	c, p, e := r.column(b)
	if e != api.OK {
		return p, e
	}
	r.note(c)
	switch {
	case r.left > 0:
	case r.hasEofs():
		r.await(r.resultColumnsEnd, false)
	default:
		r.await(r.row, true)
	}
	return p, api.OK
}

// resultColumnsEnd: the EOF behind a result's columns; where a cursor was opened, no rows come.
func (r *Responder) resultColumnsEnd(b []byte) (api.Part, api.Errno) {
	p, e := r.eof(b, api.PartEof)
	if r.cursor && p.Eof.Status&api.StatusCursor != 0 {
		r.end()
		return p, e
	}
	r.await(r.row, true)
	return p, e
}

// row: one, or the end of them.
func (r *Responder) row(b []byte) (api.Part, api.Errno) {
	switch reply.Last(b, r.caps) {
	case api.KindErr:
		return r.refusal(b)
	case api.KindOk:
		return r.ok(b, api.PartEnd)
	case api.KindEof:
		p, e := r.eof(b, api.PartEnd)
		r.settle(p.Eof.Status)
		return p, e
	}
	return r.values(b)
}

// prepared: an ERR, or what was prepared.
func (r *Responder) prepared(b []byte) (api.Part, api.Errno) {
	if reply.First(b, r.caps) == api.KindErr {
		return r.refusal(b)
	}
	told, e := reply.ReadPrepared(b)
	if e != api.OK {
		return api.Part{}, e
	}
	r.groups = []int{int(told.Params), int(told.Columns)}
	r.awaitGroup()
	return api.Part{Kind: api.PartPrepared, Prepared: told}, api.OK
}

// awaitGroup awaits the columns of a prepare's next group that has some.
func (r *Responder) awaitGroup() {
	for len(r.groups) > 0 {
		r.left, r.groups = r.groups[0], r.groups[1:]
		if r.left > 0 {
			r.await(r.groupColumn, false)
			return
		}
	}
	r.end()
}

// groupColumn: a parameter, or a column, of what was prepared.
func (r *Responder) groupColumn(b []byte) (api.Part, api.Errno) {
	_, p, e := r.column(b)
	switch {
	case e != api.OK || r.left > 0:
	case r.hasEofs():
		r.await(r.groupEnd, false)
	default:
		r.awaitGroup()
	}
	return p, e
}

// groupEnd: the EOF behind a group.
func (r *Responder) groupEnd(b []byte) (api.Part, api.Errno) {
	p, e := r.eof(b, api.PartEof)
	r.awaitGroup()
	return p, e
}

// hasEofs tells whether an EOF stands behind columns.
func (r *Responder) hasEofs() bool {
	return r.caps&api.CapDeprecateEOF == 0
}
