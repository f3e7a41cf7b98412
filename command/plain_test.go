package command_test

import (
	"encoding/binary"
	"slices"
	"strconv"
	"strings"

	"sluicegate/api"
)

// This file reads the chapter plainly: what bytes commands have, which of them may be, what is told of bytes and of kinds.

func join(parts ...[]byte) []byte {
	return slices.Concat(parts...)
}

func two(x uint16) []byte {
	return binary.LittleEndian.AppendUint16(nil, x)
}

func four(x uint32) []byte {
	return binary.LittleEndian.AppendUint32(nil, x)
}

// plainHas is the chapter's table: T Text, S Stmt, P Param, F Flags, C Count, O Option, D Data.
func plainHas(kind byte) string {
	switch kind {
	case 1, 9, 14, 31:
		return ""
	case 2, 3, 22:
		return "T"
	case 12:
		return "C"
	case 23:
		return "SFD"
	case 24:
		return "SPD"
	case 25, 26:
		return "S"
	case 27:
		return "O"
	case 28:
		return "SC"
	}
	return "D"
}

// plainBytes has no field by name but those of the chapter's table: what a command that may be doesn't have is nothing, and adds nothing.
func plainBytes(c api.Command) []byte {
	kind := []byte{c.Kind}
	switch c.Kind {
	case 12:
		return join(kind, four(c.Count))
	case 23:
		return join(kind, four(c.Stmt), []byte{c.Flags, 1, 0, 0, 0}, c.Data)
	case 24:
		return join(kind, four(c.Stmt), two(c.Param), c.Data)
	case 25, 26:
		return join(kind, four(c.Stmt))
	case 27:
		return join(kind, two(c.Option))
	case 28:
		return join(kind, four(c.Stmt), four(c.Count))
	}
	return join(kind, []byte(c.Text), c.Data)
}

func plainMay(c api.Command) bool {
	has := ""
	for _, f := range []struct {
		letter string
		is     bool
	}{
		{"T", c.Text != ""}, {"S", c.Stmt != 0}, {"P", c.Param != 0}, {"F", c.Flags != 0}, {"C", c.Count != 0}, {"O", c.Option != 0}, {"D", len(c.Data) != 0},
	} {
		if f.is {
			has += f.letter
		}
	}
	for _, letter := range has {
		if !strings.ContainsRune(plainHas(c.Kind), letter) {
			return false
		}
	}
	return c.Flags == 0 || c.Flags == 1
}

// plainSize is how many bytes stand behind the kind where their count is fixed, or ahead of Text or Data.
func plainSize(kind byte) int {
	switch kind {
	case 12, 25, 26:
		return 4
	case 23:
		return 9
	case 24:
		return 6
	case 27:
		return 2
	case 28:
		return 8
	}
	return 0
}

func plainError(b []byte) api.Errno {
	if len(b) == 0 {
		return api.ErrShort
	}
	end := 1 + plainSize(b[0])
	open := strings.ContainsAny(plainHas(b[0]), "TD")
	switch {
	case b[0] == 23 && len(b) > 5 && b[5] != 0 && b[5] != 1:
		return api.ErrBad
	case len(b) < end:
		return api.ErrShort
	case b[0] == 23 && string(b[6:10]) != "\x01\x00\x00\x00":
		return api.ErrBad
	case len(b) > end && !open:
		return api.ErrBad
	}
	return api.OK
}

// plainRead is the command of which b is the bytes, or the error.
func plainRead(b []byte) (api.Command, api.Errno) {
	if e := plainError(b); e != api.OK {
		return api.Command{}, e
	}
	le := binary.LittleEndian
	c := api.Command{Kind: b[0]}
	switch plainHas(b[0]) {
	case "T":
		c.Text = string(b[1:])
	case "C":
		c.Count = le.Uint32(b[1:])
	case "SFD":
		c.Stmt, c.Flags, c.Data = le.Uint32(b[1:]), b[5], slices.Clone(b[10:])
	case "SPD":
		c.Stmt, c.Param, c.Data = le.Uint32(b[1:]), le.Uint16(b[5:]), slices.Clone(b[7:])
	case "S":
		c.Stmt = le.Uint32(b[1:])
	case "O":
		c.Option = le.Uint16(b[1:])
	case "SC":
		c.Stmt, c.Count = le.Uint32(b[1:]), le.Uint32(b[5:])
	case "D":
		c.Data = slices.Clone(b[1:])
	}
	return c, api.OK
}

func plainAbout(kind byte) bool {
	return slices.Contains([]byte{23, 24, 25, 26, 28}, kind)
}

// plainWithStmt changes the four bytes of the id where they stand.
func plainWithStmt(b []byte, id uint32) ([]byte, api.Errno) {
	if e := plainError(b); e != api.OK {
		return nil, e
	}
	if !plainAbout(b[0]) {
		return nil, api.ErrArg
	}
	return join(b[:1], four(id), b[5:]), api.OK
}

func plainName(kind byte) string {
	words := strings.Fields("0 sleep 1 quit 2 init-db 3 query 4 field-list 5 create-db 6 drop-db 7 refresh 9 statistics 12 process-kill 14 ping " +
		"17 change-user 22 prepare 23 execute 24 long-data 25 close 26 stmt-reset 27 set-option 28 fetch 31 reset")
	for i := 0; i < len(words); i += 2 {
		if words[i] == strconv.Itoa(int(kind)) {
			return words[i+1]
		}
	}
	return "command-" + strconv.Itoa(int(kind))
}

func plainAnswer(kind byte) int {
	for i, kinds := range [][]byte{{1, 24, 25}, {2, 14, 26, 31, 12}, {27}, {9}, {3, 23}, {22}, {28}, {17}} {
		if slices.Contains(kinds, kind) {
			return i + 1
		}
	}
	return 9
}
