package column

import (
	"sluicegate/api"
	"sluicegate/lenenc"
)

// reader reads one field behind the other, and stops at its first error: from then on it answers zero values.
type reader struct {
	left []byte
	err  api.Errno
}

// want stops the reader where a field that is whole is not what it may be.
func (r *reader) want(ok bool) {
	if r.err == api.OK && !ok {
		r.err = api.ErrBad
	}
}

// pass goes on by a field of n bytes, unless an error says that there is none.
func (r *reader) pass(n int, e api.Errno) {
	if e != api.OK {
		r.err = e
		return
	}
	r.left = r.left[n:]
}

func (r *reader) fixed(n int) uint64 {
	if r.err != api.OK {
		return 0
	}
	x, e := lenenc.ReadFixed(r.left, n)
	r.pass(n, e)
	return x
}

func (r *reader) text() string {
	if r.err != api.OK {
		return ""
	}
	s, n, e := lenenc.ReadText(r.left)
	r.pass(n, e)
	return s
}
