package respond_test

import (
	"slices"

	"sluicegate/api"
	"sluicegate/column"
	"sluicegate/reply"
	"sluicegate/row"
)

// This file reads the chapter plainly: an answer is read from its first packet to its last one, by functions that call one another, as a grammar is read.

// look is what is to be seen of a responder between two packets.
type look struct {
	over    bool
	may     bool
	columns []api.Column
	status  uint16
}

// reading is what an answer is told as: each packet's part, and a look ahead of each packet and behind the last one.
type reading struct {
	parts   []api.Part
	looks   []look
	refused bool
}

// asked ends a reading: a packet is asked for that was not handed in, or may not come.
type asked struct{}

type follower struct {
	reading
	c       api.Caps
	cmd     api.Command
	packets [][]byte
	columns []api.Column
	status  uint16
}

// plain reads packets as the answer to a command. Files are taken to be of no packets.
func plain(c api.Caps, cmd api.Command, cols []api.Column, l [][]byte) reading {
	f := &follower{c: c, cmd: cmd, packets: l}
	f.follow(cols)
	return f.reading
}

func (f *follower) follow(cols []api.Column) {
	defer func() {
		if x := recover(); x != nil {
			if _, is := x.(asked); !is {
				panic(x)
			}
		}
	}()
	f.answer(cols)
	if len(f.parts) > 0 {
		f.parts[len(f.parts)-1].Last = true
	}
	f.looks = append(f.looks, look{over: true, columns: slices.Clone(f.columns), status: f.status})
}

// take is the packet that comes next, where an ERR may come or not.
func (f *follower) take(may bool) []byte {
	f.looks = append(f.looks, look{may: may, columns: slices.Clone(f.columns), status: f.status})
	if len(f.parts) == len(f.packets) {
		panic(asked{})
	}
	return f.packets[len(f.parts)]
}

// want ends the reading, where a packet may not come.
func (f *follower) want(is bool) {
	if !is {
		f.refused = true
		f.looks = append(f.looks, look{over: true, columns: slices.Clone(f.columns), status: f.status})
		panic(asked{})
	}
}

func (f *follower) told(p api.Part) {
	f.parts = append(f.parts, p)
}

func begins(b []byte, with byte) bool {
	return len(b) > 0 && b[0] == with
}

func (f *follower) has(c api.Caps) bool {
	return f.c&c != 0
}

func (f *follower) answer(cols []api.Column) {
	switch f.cmd.Kind {
	case 1, 24, 25:
	case 2, 14, 26, 31, 12:
		f.okOrErr()
	case 27:
		f.option()
	case 9:
		f.statistics()
	case 3, 23:
		for f.result() {
		}
	case 22:
		f.prepare()
	case 28:
		f.columns = cols
		f.rows(true)
	default:
		f.err(f.take(true))
	}
}

func (f *follower) err(b []byte) {
	x, e := reply.ReadErr(b)
	f.want(e == api.OK)
	f.told(api.Part{Kind: 2, Err: x})
}

func (f *follower) okay(b []byte, kind int) {
	o, e := reply.ReadOk(b, f.c)
	f.want(e == api.OK)
	f.status = o.Status
	f.told(api.Part{Kind: kind, Ok: o})
}

func (f *follower) eof(b []byte, kind int) {
	x, e := reply.ReadEof(b)
	f.want(e == api.OK)
	f.status = x.Status
	f.told(api.Part{Kind: kind, Eof: x})
}

// okOrErr tells whether it was an OK.
func (f *follower) okOrErr() bool {
	b := f.take(true)
	if begins(b, 255) {
		f.err(b)
		return false
	}
	f.want(begins(b, 0))
	f.okay(b, 1)
	return true
}

func (f *follower) option() {
	if b := f.take(true); len(b) == 5 && b[0] == 254 {
		f.eof(b, 6)
		return
	}
	f.looks = f.looks[:len(f.looks)-1]
	f.okOrErr()
}

func (f *follower) statistics() {
	b := f.take(true)
	if begins(b, 255) {
		f.err(b)
		return
	}
	f.want(len(b) > 0)
	f.told(api.Part{Kind: 10})
}

// result tells whether another one comes.
func (f *follower) result() bool {
	b := f.take(true)
	switch {
	case begins(b, 0):
		f.okay(b, 1)
		return f.status&8 != 0
	case begins(b, 255):
		f.err(b)
		return false
	case begins(b, 251) && f.has(files):
		f.want(len(b) > 1)
		f.told(api.Part{Kind: 3})
		return f.okOrErr() && f.status&8 != 0
	}
	n, e := column.ReadCount(b)
	f.want(e == api.OK)
	f.told(api.Part{Kind: 4})
	f.columns = nil
	for range n {
		f.columns = append(f.columns, f.column())
	}
	if !f.has(noEofs) {
		f.eof(f.take(false), 6)
		if f.cmd.Kind == 23 && f.cmd.Flags == 1 && f.status&64 != 0 {
			return false
		}
	}
	return f.rows(f.cmd.Kind == 23) && f.status&8 != 0
}

func (f *follower) column() api.Column {
	c, e := column.Read(f.take(false))
	f.want(e == api.OK)
	f.told(api.Part{Kind: 5})
	return c
}

// rows tells whether they ended without an ERR.
func (f *follower) rows(binary bool) bool {
	for {
		b := f.take(true)
		switch {
		case begins(b, 255):
			f.err(b)
			return false
		case begins(b, 254) && f.has(noEofs) && len(b) < 16777215:
			f.okay(b, 8)
			return true
		case begins(b, 254) && !f.has(noEofs) && len(b) == 5:
			f.eof(b, 8)
			return true
		}
		_, e := row.ReadText(b, len(f.columns))
		if binary {
			var types []api.Typed
			for _, c := range f.columns {
				types = append(types, api.Typed{Type: c.Type, Unsigned: c.Flags&32 != 0})
			}
			_, e = row.ReadBinary(b, types)
		}
		f.want(e == api.OK)
		f.told(api.Part{Kind: 7})
	}
}

func (f *follower) prepare() {
	b := f.take(true)
	if begins(b, 255) {
		f.err(b)
		return
	}
	p, e := reply.ReadPrepared(b)
	f.want(e == api.OK)
	f.told(api.Part{Kind: 9, Prepared: p})
	for _, n := range list(p.Params, p.Columns) {
		for range n {
			f.column()
		}
		if n > 0 && !f.has(noEofs) {
			f.eof(f.take(false), 6)
		}
	}
}
