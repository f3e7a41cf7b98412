package greet

import (
	"bytes"

	"sluicegate/api"
	"sluicegate/lenenc"
)

// reader reads one field behind the other, and stops at its first error: from then on it answers zero values.
type reader struct {
	left []byte
	err  api.Errno
}

// want stops the reader where a field that is whole is not what it may be.
func (r *reader) want(ok bool) {
	if r.err == api.OK && !ok {
		r.err = api.ErrBad
	}
}

// pass goes on by a field of n bytes, unless an error says that there is none.
func (r *reader) pass(n int, e api.Errno) {
	if e != api.OK {
		r.err = e
		return
	}
	r.left = r.left[n:]
}

func (r *reader) take(n int) []byte {
	if r.err != api.OK {
		return nil
	}
	if len(r.left) < n {
		r.err = api.ErrShort
		return nil
	}
	field := bytes.Clone(r.left[:n])
	r.pass(n, api.OK)
	return field
}

func (r *reader) fixed(n int) uint64 {
	if r.err != api.OK {
		return 0
	}
	x, e := lenenc.ReadFixed(r.left, n)
	r.pass(n, e)
	return x
}

func (r *reader) ended() string {
	if r.err != api.OK {
		return ""
	}
	s, n, e := lenenc.ReadEnded(r.left)
	r.pass(n, e)
	return s
}

func (r *reader) text() string {
	if r.err != api.OK {
		return ""
	}
	s, n, e := lenenc.ReadText(r.left)
	r.pass(n, e)
	return s
}

func (r *reader) short() []byte {
	return r.take(int(r.fixed(1)))
}

func (r *reader) mark(x uint64) {
	r.want(r.fixed(1) == x)
}

func (r *reader) zeros(n int) {
	r.want(bytes.Equal(r.take(n), make([]byte, n)))
}

// nonce reads a part of a nonce, or all of it.
func (r *reader) nonce(n int) []byte {
	part := r.take(n)
	r.want(mayBePart(part))
	return part
}

func (r *reader) plugin(c api.Caps) string {
	if c&api.CapPluginAuth == 0 {
		return ""
	}
	return r.ended()
}

// attrs reads the attributes' bytes as the counted text that they are, so that they are short only as a whole.
func (r *reader) attrs(c api.Caps) []api.Attr {
	if c&api.CapConnectAttrs == 0 {
		return nil
	}
	within := &reader{left: []byte(r.text())}
	var l []api.Attr
	for len(within.left) > 0 && within.err == api.OK {
		within.want(len(l) < api.MaxAttrs)
		name := within.text()
		l = append(l, api.Attr{Name: name, Value: within.text()})
	}
	r.want(within.err == api.OK)
	return l
}

// end asks that nothing is left.
func (r *reader) end() {
	r.want(len(r.left) == 0)
}
