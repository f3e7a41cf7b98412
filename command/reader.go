package command

import (
	"bytes"

	"sluicegate/api"
	"sluicegate/lenenc"
)

// reader reads one field behind the other, and stops at its first error: from then on it answers zero values.
type reader struct {
	left []byte
	err  api.Errno
}

// take reads a field into its place in a command.
func (r *reader) take(c *api.Command, f field) {
	switch f {
	case fieldText:
		c.Text = string(r.rest())
	case fieldStmt:
		c.Stmt = uint32(r.fixed(4))
	case fieldParam:
		c.Param = uint16(r.fixed(2))
	case fieldFlags:
		c.Flags = byte(r.fixed(1))
		r.want(c.Flags <= mostFlags)
	case fieldTimes:
		r.want(r.fixed(4) == once)
	case fieldCount:
		c.Count = uint32(r.fixed(4))
	case fieldOption:
		c.Option = uint16(r.fixed(2))
	case fieldData:
		c.Data = bytes.Clone(r.rest())
	}
}

// want stops the reader where a field that is whole is not what it may be.
func (r *reader) want(ok bool) {
	if r.err == api.OK && !ok {
		r.err = api.ErrBad
	}
}

func (r *reader) fixed(n int) uint64 {
	if r.err != api.OK {
		return 0
	}
	x, e := lenenc.ReadFixed(r.left, n)
	if e != api.OK {
		r.err = e
		return 0
	}
	r.left = r.left[n:]
	return x
}

// rest answers all that is left, within what was handed in: to be copied.
func (r *reader) rest() []byte {
	if r.err != api.OK {
		return nil
	}
	rest := r.left
	r.left = nil
	return rest
}

// end asks that nothing is left.
func (r *reader) end() {
	r.want(len(r.left) == 0)
}
