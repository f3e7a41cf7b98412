package reply_test

import (
	"bytes"
	"encoding/binary"
	"slices"

	"sluicegate/api"
)

// This file reads the chapter plainly: what bytes packets have, which of them may be, what is told of bytes.

const (
	tracks     = api.CapSessionTrack
	files      = api.CapLocalFiles
	deprecates = api.CapDeprecateEOF
	changed    = api.StatusStateChanged
)

func join(parts ...[]byte) []byte {
	return slices.Concat(parts...)
}

func two(x uint16) []byte {
	return binary.LittleEndian.AppendUint16(nil, x)
}

func four(x uint32) []byte {
	return binary.LittleEndian.AppendUint32(nil, x)
}

func eight(x uint64) []byte {
	return binary.LittleEndian.AppendUint64(nil, x)
}

// counted is a counted number in its shortest form.
func counted(x uint64) []byte {
	switch {
	case x < 251:
		return []byte{byte(x)}
	case x < 1<<16:
		return join([]byte{252}, two(uint16(x)))
	case x < 1<<24:
		return join([]byte{253}, four(uint32(x))[:3])
	}
	return join([]byte{254}, eight(x))
}

func countedText(s []byte) []byte {
	return join(counted(uint64(len(s))), s)
}

func plainOkMay(c api.Caps, o api.Ok) bool {
	return len(o.Track) == 0 || c&tracks != 0 && o.Status&changed != 0
}

func plainOk(c api.Caps, o api.Ok, last bool) []byte {
	first := byte(0)
	if last {
		first = 254
	}
	head := join([]byte{first}, counted(o.Affected), counted(o.Insert), two(o.Status), two(o.Warnings))
	switch {
	case c&tracks == 0:
		return join(head, []byte(o.Info))
	case o.Status&changed == 0:
		return join(head, countedText([]byte(o.Info)))
	}
	return join(head, countedText([]byte(o.Info)), countedText(o.Track))
}

func plainErr(e api.Err) []byte {
	return join([]byte{255}, two(e.Code), []byte("#"), []byte(e.State), []byte(e.Text))
}

func plainEof(f api.Eof) []byte {
	return join([]byte{254}, two(f.Warnings), two(f.Status))
}

func plainPrepared(p api.Prepared) []byte {
	return join([]byte{0}, four(p.Stmt), two(p.Columns), two(p.Params), []byte{0}, two(p.Warnings))
}

func plainFile(name string) []byte {
	return join([]byte{251}, []byte(name))
}

// numberAt is the counted number at a place, and the place behind it.
func numberAt(b []byte, at int) (uint64, int, api.Errno) {
	if at == len(b) {
		return 0, 0, api.ErrShort
	}
	size := 0
	switch b[at] {
	case 251, 255:
		return 0, 0, api.ErrBad
	case 252:
		size = 2
	case 253:
		size = 3
	case 254:
		size = 8
	default:
		return uint64(b[at]), at + 1, api.OK
	}
	if len(b)-at-1 < size {
		return 0, 0, api.ErrShort
	}
	full := make([]byte, 8)
	copy(full, b[at+1:at+1+size])
	return binary.LittleEndian.Uint64(full), at + 1 + size, api.OK
}

// textAt is the counted text at a place, and the place behind it.
func textAt(b []byte, at int) ([]byte, int, api.Errno) {
	size, at, e := numberAt(b, at)
	if e != api.OK {
		return nil, 0, e
	}
	if size > uint64(len(b)-at) {
		return nil, 0, api.ErrShort
	}
	end := at + int(size)
	return bytes.Clone(b[at:end]), end, api.OK
}

func readOk(b []byte, c api.Caps) (api.Ok, api.Errno) {
	if len(b) == 0 {
		return api.Ok{}, api.ErrShort
	}
	if b[0] != 0 && b[0] != 254 {
		return api.Ok{}, api.ErrBad
	}
	var o api.Ok
	at := 1
	for _, x := range []*uint64{&o.Affected, &o.Insert} {
		n, next, e := numberAt(b, at)
		if e != api.OK {
			return api.Ok{}, e
		}
		*x, at = n, next
	}
	if len(b) < at+4 {
		return api.Ok{}, api.ErrShort
	}
	o.Status, o.Warnings = binary.LittleEndian.Uint16(b[at:]), binary.LittleEndian.Uint16(b[at+2:])
	return readOkTail(o, b[at+4:], c)
}

// readOkTail reads what stands behind Warnings.
func readOkTail(o api.Ok, tail []byte, c api.Caps) (api.Ok, api.Errno) {
	if c&tracks == 0 {
		o.Info = string(tail)
		return o, api.OK
	}
	if len(tail) == 0 && o.Status&changed == 0 {
		return o, api.OK
	}
	info, at, e := textAt(tail, 0)
	if e != api.OK {
		return api.Ok{}, e
	}
	o.Info = string(info)
	if o.Status&changed != 0 {
		if o.Track, at, e = textAt(tail, at); e != api.OK {
			return api.Ok{}, e
		}
	}
	if at != len(tail) {
		return api.Ok{}, api.ErrBad
	}
	return o, api.OK
}

func readErr(b []byte) (api.Err, api.Errno) {
	switch {
	case len(b) == 0:
		return api.Err{}, api.ErrShort
	case b[0] != 255:
		return api.Err{}, api.ErrBad
	case len(b) < 4:
		return api.Err{}, api.ErrShort
	case b[3] != 35:
		return api.Err{}, api.ErrBad
	case len(b) < 9:
		return api.Err{}, api.ErrShort
	}
	return api.Err{Code: binary.LittleEndian.Uint16(b[1:]), State: string(b[4:9]), Text: string(b[9:])}, api.OK
}

func readEof(b []byte) (api.Eof, api.Errno) {
	switch {
	case len(b) == 0:
		return api.Eof{}, api.ErrShort
	case b[0] != 254:
		return api.Eof{}, api.ErrBad
	case len(b) < 5:
		return api.Eof{}, api.ErrShort
	case len(b) > 5:
		return api.Eof{}, api.ErrBad
	}
	return api.Eof{Warnings: binary.LittleEndian.Uint16(b[1:]), Status: binary.LittleEndian.Uint16(b[3:])}, api.OK
}

func readPrepared(b []byte) (api.Prepared, api.Errno) {
	switch {
	case len(b) == 0:
		return api.Prepared{}, api.ErrShort
	case b[0] != 0:
		return api.Prepared{}, api.ErrBad
	case len(b) < 10:
		return api.Prepared{}, api.ErrShort
	case b[9] != 0:
		return api.Prepared{}, api.ErrBad
	case len(b) < 12:
		return api.Prepared{}, api.ErrShort
	case len(b) > 12:
		return api.Prepared{}, api.ErrBad
	}
	le := binary.LittleEndian
	return api.Prepared{Stmt: le.Uint32(b[1:]), Columns: le.Uint16(b[5:]), Params: le.Uint16(b[7:]), Warnings: le.Uint16(b[10:])}, api.OK
}

func readFile(b []byte) (string, api.Errno) {
	switch {
	case len(b) == 0:
		return "", api.ErrShort
	case b[0] != 251:
		return "", api.ErrBad
	case len(b) == 1:
		return "", api.ErrShort
	}
	return string(b[1:]), api.OK
}

// plainFirst and plainLast tell what a packet is by its first byte and by how many it has.
func plainFirst(first byte, c api.Caps) int {
	if first == 251 && c&files == 0 {
		return api.KindOther
	}
	return map[byte]int{0: api.KindOk, 255: api.KindErr, 251: api.KindFile}[first]
}

func plainLast(first byte, size int, c api.Caps) int {
	with := c&deprecates != 0
	switch {
	case first == 255:
		return api.KindErr
	case first == 254 && with && size < 16777215:
		return api.KindOk
	case first == 254 && !with && size == 5:
		return api.KindEof
	}
	return api.KindOther
}
