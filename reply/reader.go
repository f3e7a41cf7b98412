package reply

import (
	"sluicegate/api"
	"sluicegate/lenenc"
)

// reader reads one field behind the other, and stops at its first error: from then on it answers zero values.
type reader struct {
	all []byte
	at  int
	err api.Errno
}

// want stops the reader where a field that is whole is not what it may be.
func (r *reader) want(ok bool) {
	if r.err == api.OK && !ok {
		r.err = api.ErrBad
	}
}

// need stops the reader where fewer than n bytes are left.
func (r *reader) need(n int) {
	if r.err == api.OK && r.left() < n {
		r.err = api.ErrShort
	}
}

func (r *reader) left() int {
	return len(r.all) - r.at
}

// pass goes on by a field of n bytes, unless an error says that there is none.
func (r *reader) pass(n int, e api.Errno) {
	if e != api.OK {
		r.err = e
		return
	}
	r.at += n
}

func (r *reader) fixed(n int) uint64 {
	if r.err != api.OK {
		return 0
	}
	x, e := lenenc.ReadFixed(r.all[r.at:], n)
	r.pass(n, e)
	return x
}

func (r *reader) number() uint64 {
	if r.err != api.OK {
		return 0
	}
	x, n, e := lenenc.ReadInt(r.all[r.at:])
	r.pass(n, e)
	return x
}

func (r *reader) text() string {
	if r.err != api.OK {
		return ""
	}
	s, n, e := lenenc.ReadText(r.all[r.at:])
	r.pass(n, e)
	return s
}

func (r *reader) mark(x uint64) {
	r.want(r.fixed(1) == x)
}

func (r *reader) take(n int) string {
	r.need(n)
	if r.err != api.OK {
		return ""
	}
	s := string(r.all[r.at : r.at+n])
	r.pass(n, api.OK)
	return s
}

// rest takes all up to the end.
func (r *reader) rest() string {
	if r.err != api.OK {
		return ""
	}
	s := string(r.all[r.at:len(r.all)])
	r.at = len(r.all)
	return s
}

// end asks that nothing is left, and answers the first error of all.
func (r *reader) end() api.Errno {
	r.want(r.left() == 0)
	return r.err
}
