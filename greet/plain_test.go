package greet_test

import (
	"bytes"
	"encoding/binary"
	"slices"
	"strings"

	"sluicegate/api"
)

// This file reads the chapter plainly: what bytes things have, which of them may be, and what is told of bytes, field by field.

const (
	core    = api.CapProtocol41 | api.CapSecure
	withDB  = core | api.CapConnectWithDB
	plugged = core | api.CapPluginAuth
	attred  = core | api.CapConnectAttrs
	counted = core | api.CapLenencAuth
	full    = withDB | plugged | attred | counted
)

func join(parts ...[]byte) []byte {
	return slices.Concat(parts...)
}

func zeros(n int) []byte {
	return make([]byte, n)
}

func ended(s string) []byte {
	return append([]byte(s), 0)
}

func two(x uint16) []byte {
	return binary.LittleEndian.AppendUint16(nil, x)
}

func four(x uint32) []byte {
	return binary.LittleEndian.AppendUint32(nil, x)
}

// number is x in its shortest counted form.
func number(x int) []byte {
	switch {
	case x <= 250:
		return []byte{byte(x)}
	case x < 1<<16:
		return append([]byte{252}, two(uint16(x))...)
	case x < 1<<24:
		return append([]byte{253}, four(uint32(x))[:3]...)
	}
	return binary.LittleEndian.AppendUint64([]byte{254}, uint64(x))
}

func text(s string) []byte {
	return join(number(len(s)), []byte(s))
}

func short(b []byte) []byte {
	return append([]byte{byte(len(b))}, b...)
}

// when is some bytes, if a capability is there.
func when(c, flag api.Caps, b []byte) []byte {
	if c&flag != flag {
		return nil
	}
	return b
}

func attrBytes(l []api.Attr) []byte {
	var b []byte
	for _, a := range l {
		b = join(b, text(a.Name), text(a.Value))
	}
	return b
}

func plainGreeting(g api.Greeting) []byte {
	size := byte(0)
	if g.Caps&api.CapPluginAuth != 0 {
		size = 21
	}
	return join([]byte{10}, ended(g.Version), four(g.Thread), g.Nonce[:8], zeros(1), two(uint16(g.Caps)), []byte{g.Charset},
		two(g.Status), two(uint16(g.Caps>>16)), []byte{size}, zeros(10), g.Nonce[8:], zeros(1),
		when(g.Caps, api.CapPluginAuth, ended(g.Plugin)))
}

func plainAnswer(a api.Answer) []byte {
	response := short(a.Response)
	if a.Caps&api.CapLenencAuth != 0 {
		response = text(string(a.Response))
	}
	return join(four(uint32(a.Caps)), four(a.Most), []byte{a.Charset}, zeros(23), ended(a.User), response,
		when(a.Caps, api.CapConnectWithDB, ended(a.Schema)), when(a.Caps, api.CapPluginAuth, ended(a.Plugin)),
		when(a.Caps, api.CapConnectAttrs, text(string(attrBytes(a.Attrs)))))
}

func plainSwitch(s api.Switch) []byte {
	return join([]byte{254}, ended(s.Plugin), s.Nonce, zeros(1))
}

func plainChange(c api.Caps, u api.ChangeUser) []byte {
	return join([]byte{17}, ended(u.User), short(u.Response), ended(u.Schema), two(u.Charset),
		when(c, api.CapPluginAuth, ended(u.Plugin)), when(c, api.CapConnectAttrs, text(string(attrBytes(u.Attrs)))))
}

func plainNonceBytes(b []byte) bool {
	return !bytes.ContainsAny(b, "\x00$")
}

func plainNonce(b []byte) bool {
	return len(b) == 20 && plainNonceBytes(b)
}

// plainText tells whether a text may be that hangs on a capability.
func plainText(c, flag api.Caps, s string) bool {
	return !strings.Contains(s, "\x00") && (c&flag == flag || s == "")
}

func plainGreetingMay(g api.Greeting) bool {
	return plainText(0, 0, g.Version) && plainNonce(g.Nonce) && g.Caps&core == core && plainText(g.Caps, api.CapPluginAuth, g.Plugin)
}

func plainAnswerMay(a api.Answer) bool {
	return a.Caps&core == core && plainText(0, 0, a.User) && plainText(a.Caps, api.CapConnectWithDB, a.Schema) &&
		plainText(a.Caps, api.CapPluginAuth, a.Plugin) && (a.Caps&api.CapConnectAttrs != 0 || len(a.Attrs) == 0) &&
		len(a.Response) <= 255 && len(a.Attrs) <= 64
}

func plainChangeMay(c api.Caps, u api.ChangeUser) bool {
	return plainAnswerMay(api.Answer{Caps: c, User: u.User, Response: u.Response, Schema: u.Schema, Plugin: u.Plugin, Attrs: u.Attrs})
}

func plainSwitchMay(s api.Switch) bool {
	return plainText(0, 0, s.Plugin) && plainNonce(s.Nonce)
}

// measure tells how many bytes the field at b's beginning has: -1 if b ends within it, -2 if there can't be such a one.
type measure func(b []byte) int

// field is one field: how long it is, and whether it may be, once it is whole.
type field struct {
	long measure
	may  func(b []byte) bool
}

func anything([]byte) bool { return true }

func fixedLong(n int) measure {
	return func(b []byte) int {
		if len(b) < n {
			return -1
		}
		return n
	}
}

func endedLong(b []byte) int {
	at := bytes.IndexByte(b, 0)
	if at < 0 {
		return -1
	}
	return at + 1
}

func shortLong(b []byte) int {
	if len(b) == 0 || len(b) < 1+int(b[0]) {
		return -1
	}
	return 1 + int(b[0])
}

// textHead tells how long the counted number at b's beginning is, as a measure does, and the number.
func textHead(b []byte) (int, uint64) {
	if len(b) == 0 {
		return -1, 0
	}
	width := 0
	switch b[0] {
	case 251, 255:
		return -2, 0
	case 252:
		width = 2
	case 253:
		width = 3
	case 254:
		width = 8
	default:
		return 1, uint64(b[0])
	}
	if len(b) < 1+width {
		return -1, 0
	}
	eight := append(bytes.Clone(b[1:1+width]), zeros(8-width)...)
	return 1 + width, binary.LittleEndian.Uint64(eight)
}

func textLong(b []byte) int {
	n, size := textHead(b)
	if n < 0 {
		return n
	}
	if uint64(len(b[n:])) < size {
		return -1
	}
	return n + int(size)
}

// body is a counted text without its number.
func body(b []byte) []byte {
	n, _ := textHead(b)
	return b[n:]
}

// attrsOf is the attributes of such bytes, if they are some.
func attrsOf(b []byte) ([]api.Attr, bool) {
	var texts []string
	for len(b) > 0 {
		n := textLong(b)
		if n < 0 {
			return nil, false
		}
		texts = append(texts, string(body(b[:n])))
		b = b[n:]
	}
	if len(texts)%2 != 0 || len(texts) > 128 {
		return nil, false
	}
	var l []api.Attr
	for i := 0; i < len(texts); i += 2 {
		l = append(l, api.Attr{Name: texts[i], Value: texts[i+1]})
	}
	return l, true
}

func just(want ...byte) field {
	return field{fixedLong(len(want)), func(b []byte) bool { return bytes.Equal(b, want) }}
}

func fixedField(n int) field { return field{fixedLong(n), anything} }

func endedField() field { return field{endedLong, anything} }

func nonceField(n int) field { return field{fixedLong(n), plainNonceBytes} }

// capsField has core in its two lower bytes.
func capsField(n int) field {
	return field{fixedLong(n), func(b []byte) bool { return b[1]&0x82 == 0x82 }}
}

func attrsField() field {
	return field{textLong, func(b []byte) bool {
		_, ok := attrsOf(body(b))
		return ok
	}}
}

// only is some fields, if a capability is there.
func only(c, flag api.Caps, f field) []field {
	if c&flag == 0 {
		return nil
	}
	return []field{f}
}

// fieldsOf cuts b into these fields, or tells the first error.
func fieldsOf(b []byte, fields []field) ([][]byte, api.Errno) {
	var l [][]byte
	for _, f := range fields {
		n := f.long(b)
		switch {
		case n == -1:
			return nil, api.ErrShort
		case n == -2, !f.may(b[:n]):
			return nil, api.ErrBad
		}
		l = append(l, b[:n])
		b = b[n:]
	}
	if len(b) > 0 {
		return nil, api.ErrBad
	}
	return l, api.OK
}

// capsAt is the capabilities in four bytes, where they are; where they are not, the fields end ahead of what hangs on them.
func capsAt(b []byte, places ...int) api.Caps {
	var c api.Caps
	for i, at := range places {
		if at >= len(b) {
			return 0
		}
		c |= api.Caps(b[at]) << (8 * i)
	}
	return c
}

func unended(b []byte) string {
	return string(b[:len(b)-1])
}

func lowest(b []byte) uint64 {
	return binary.LittleEndian.Uint64(append(bytes.Clone(b), zeros(8-len(b))...))
}

func readGreeting(b []byte) (api.Greeting, api.Errno) {
	at := bytes.IndexByte(b, 0) + 14
	c := capsAt(b, at, at+1, at+5, at+6)
	size := byte(0)
	if c&api.CapPluginAuth != 0 {
		size = 21
	}
	fields := []field{just(10), endedField(), fixedField(4), nonceField(8), just(0), capsField(2), fixedField(1), fixedField(2),
		fixedField(2), just(size), just(zeros(10)...), nonceField(12), just(0)}
	l, e := fieldsOf(b, append(fields, only(c, api.CapPluginAuth, endedField())...))
	if e != api.OK {
		return api.Greeting{}, e
	}
	g := api.Greeting{Version: unended(l[1]), Thread: uint32(lowest(l[2])), Nonce: join(l[3], l[11]), Caps: c, Charset: l[6][0],
		Status: uint16(lowest(l[7]))}
	if len(l) > 13 {
		g.Plugin = unended(l[13])
	}
	return g, api.OK
}

func readAnswer(b []byte) (api.Answer, api.Errno) {
	c := capsAt(b, 0, 1, 2, 3)
	response := field{shortLong, anything}
	if c&api.CapLenencAuth != 0 {
		response = field{textLong, func(b []byte) bool { return len(body(b)) <= 255 }}
	}
	fields := []field{capsField(4), fixedField(4), fixedField(1), just(zeros(23)...), endedField(), response}
	fields = append(fields, only(c, api.CapConnectWithDB, endedField())...)
	fields = append(fields, only(c, api.CapPluginAuth, endedField())...)
	l, e := fieldsOf(b, append(fields, only(c, api.CapConnectAttrs, attrsField())...))
	if e != api.OK {
		return api.Answer{}, e
	}
	a := api.Answer{Caps: c, Most: uint32(lowest(l[1])), Charset: l[2][0], User: unended(l[4]), Response: l[5][1:]}
	if c&api.CapLenencAuth != 0 {
		a.Response = body(l[5])
	}
	l = l[6:]
	if c&api.CapConnectWithDB != 0 {
		a.Schema, l = unended(l[0]), l[1:]
	}
	a.Plugin, a.Attrs = readTail(c, l)
	return a, api.OK
}

// readTail takes what an answer and a change of user end with.
func readTail(c api.Caps, l [][]byte) (string, []api.Attr) {
	plugin := ""
	if c&api.CapPluginAuth != 0 {
		plugin, l = unended(l[0]), l[1:]
	}
	if c&api.CapConnectAttrs == 0 {
		return plugin, nil
	}
	attrs, _ := attrsOf(body(l[0]))
	return plugin, attrs
}

func readSwitch(b []byte) (api.Switch, api.Errno) {
	l, e := fieldsOf(b, []field{just(254), endedField(), nonceField(20), just(0)})
	if e != api.OK {
		return api.Switch{}, e
	}
	return api.Switch{Plugin: unended(l[1]), Nonce: l[2]}, api.OK
}

func readMore(b []byte) ([]byte, api.Errno) {
	switch {
	case len(b) == 0:
		return nil, api.ErrShort
	case b[0] != 1:
		return nil, api.ErrBad
	}
	return b[1:], api.OK
}

func readChange(b []byte, c api.Caps) (api.ChangeUser, api.Errno) {
	first := field{fixedLong(1), func(b []byte) bool { return b[0] == 17 && c&core == core }}
	schema := field{endedLong, func(b []byte) bool { return c&api.CapConnectWithDB != 0 || len(b) == 1 }}
	fields := []field{first, endedField(), {shortLong, anything}, schema, fixedField(2)}
	fields = append(fields, only(c, api.CapPluginAuth, endedField())...)
	l, e := fieldsOf(b, append(fields, only(c, api.CapConnectAttrs, attrsField())...))
	if e != api.OK {
		return api.ChangeUser{}, e
	}
	u := api.ChangeUser{User: unended(l[1]), Response: l[2][1:], Schema: unended(l[3]), Charset: uint16(lowest(l[4]))}
	u.Plugin, u.Attrs = readTail(c, l[5:])
	return u, api.OK
}
