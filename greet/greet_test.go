package greet_test

import (
	"bytes"
	"fmt"
	"math/rand"
	"slices"
	"strings"
	"testing"

	"sluicegate/api"
	"sluicegate/greet"
)

func TestExamples(t *testing.T) {
	b, e := greet.AppendGreeting(nil, api.Greeting{Version: "8", Thread: 1, Nonce: nonce(), Caps: core, Charset: 45, Status: 2})
	if len(b) != 47 || e != api.OK {
		t.Errorf("AppendGreeting: %s, %v", brief(b), e)
	}
	b, e = greet.AppendSwitch(nil, api.Switch{Plugin: api.NativePlugin, Nonce: nonce()})
	if len(b) != 44 || e != api.OK {
		t.Errorf("AppendSwitch: %s, %v", brief(b), e)
	}
	wantError(t, "254 97", ofSwitch(basicSwitch()), []byte{254, 97}, api.ErrShort)
	if b = greet.AppendMore(nil, []byte{3}); !bytes.Equal(b, []byte{1, 3}) {
		t.Errorf("AppendMore: %v", b)
	}
	wantRead(t, "1 3", ofMore(nil), []byte{1, 3}, []byte{3})
	wantError(t, "2", ofMore(nil), []byte{2}, api.ErrBad)
	b, e = greet.AppendAnswer(nil, api.Answer{Caps: core, Most: 1000, Charset: 45, User: "u", Response: []byte{7}})
	if !bytes.HasSuffix(b, []byte{117, 0, 1, 7}) || len(b) != 36 || e != api.OK {
		t.Errorf("AppendAnswer: %s, %v", brief(b), e)
	}
	wantError(t, "nothing", ofAnswer(basicAnswer()), nil, api.ErrShort)
	wantError(t, "32 bytes 0", ofAnswer(basicAnswer()), make([]byte, 32), api.ErrBad)
	if b, e = greet.AppendAnswer(nil, api.Answer{}); len(b) != 0 || e != api.ErrArg {
		t.Errorf("AppendAnswer of no Caps: %v, %v", b, e)
	}
}

// TestP12_1Written has bytes that were written out by hand, one packet of each kind with all that it can have, and one with the least.
func TestP12_1Written(t *testing.T) {
	for _, c := range []struct {
		s    sample
		want []byte
	}{
		{ofGreeting(api.Greeting{Version: "8.0", Thread: 0x04030201, Nonce: climbing(101, 20), Caps: plugged | 1<<31, Charset: 45, Status: 0x0602, Plugin: "pl"}), []byte{
			10, '8', '.', '0', 0, 1, 2, 3, 4, 101, 102, 103, 104, 105, 106, 107, 108, 0, 0x00, 0x82, 45, 2, 6, 0x08, 0x80, 21,
			0, 0, 0, 0, 0, 0, 0, 0, 0, 0, 109, 110, 111, 112, 113, 114, 115, 116, 117, 118, 119, 120, 0, 'p', 'l', 0,
		}},
		{ofGreeting(api.Greeting{Nonce: nonce(), Caps: core | api.CapLongPassword | api.CapDeprecateEOF}), []byte{
			10, 0, 0, 0, 0, 0, 1, 2, 3, 4, 5, 6, 7, 8, 0, 0x01, 0x82, 0, 0, 0, 0x00, 0x01, 0,
			0, 0, 0, 0, 0, 0, 0, 0, 0, 0, 9, 10, 11, 12, 13, 14, 15, 16, 17, 18, 19, 20, 0,
		}},
		{ofAnswer(api.Answer{Caps: full | 1<<30, Most: 0x08070605, Charset: 45, User: "usr", Response: []byte{7, 0, 36}, Schema: "db", Plugin: "pl",
			Attrs: []api.Attr{{Name: "n", Value: "val"}, {Name: "", Value: "\x00"}}}), []byte{
			0x08, 0x82, 0x38, 0x40, 5, 6, 7, 8, 45, 0, 0, 0, 0, 0, 0, 0, 0, 0, 0, 0, 0, 0, 0, 0, 0, 0, 0, 0, 0, 0, 0, 0,
			'u', 's', 'r', 0, 3, 7, 0, 36, 'd', 'b', 0, 'p', 'l', 0, 9, 1, 'n', 3, 'v', 'a', 'l', 0, 1, 0,
		}},
		{ofAnswer(api.Answer{Caps: core}), []byte{
			0x00, 0x82, 0, 0, 0, 0, 0, 0, 0, 0, 0, 0, 0, 0, 0, 0, 0, 0, 0, 0, 0, 0, 0, 0, 0, 0, 0, 0, 0, 0, 0, 0, 0, 0,
		}},
		{ofSwitch(api.Switch{Plugin: "pl", Nonce: nonce()}), []byte{
			254, 'p', 'l', 0, 1, 2, 3, 4, 5, 6, 7, 8, 9, 10, 11, 12, 13, 14, 15, 16, 17, 18, 19, 20, 0,
		}},
		{ofMore(nil), []byte{1}},
		{ofMore([]byte{4, 0, 1}), []byte{1, 4, 0, 1}},
		{ofChange(full, api.ChangeUser{User: "usr", Response: []byte{7, 0, 36}, Schema: "db", Charset: 0x0102, Plugin: "pl",
			Attrs: []api.Attr{{Name: "n", Value: "val"}, {Name: "", Value: "\x00"}}}), []byte{
			17, 'u', 's', 'r', 0, 3, 7, 0, 36, 'd', 'b', 0, 2, 1, 'p', 'l', 0, 9, 1, 'n', 3, 'v', 'a', 'l', 0, 1, 0,
		}},
		{ofChange(core, api.ChangeUser{}), []byte{17, 0, 0, 0, 0, 0}},
	} {
		wantBytes(t, c.s, nil, c.want)
		wantBytes(t, c.s, []byte{9, 0}, append([]byte{9, 0}, c.want...))
		wantRead(t, "written", c.s, c.want, c.s.thing)
	}
}

func wantBytes(t *testing.T, s sample, b, want []byte) {
	t.Helper()
	if got, e := s.put(b); !bytes.Equal(got, want) || e != api.OK {
		t.Errorf("%s behind %d bytes: %s, %v, want %s", s.name, len(b), brief(got), e, brief(want))
	}
}

// TestP12_1Samples has all samples behind nothing and behind something, their own bytes too.
func TestP12_1Samples(t *testing.T) {
	for _, s := range samples() {
		for _, b := range [][]byte{nil, {}, {0}, {255, 254, 253}, s.bytes, climbing(0, 300)} {
			wantBytes(t, s, b, join(b, s.bytes))
		}
	}
}

// TestP12_1EachField has another value in one field after the other: its bytes change at its place alone.
func TestP12_1EachField(t *testing.T) {
	for _, c := range []struct {
		name     string
		change   func(g *api.Greeting)
		from, to int
	}{
		{"Thread", func(g *api.Greeting) { g.Thread = 0xfdfcfbfa }, 5, 9},
		{"the Nonce's beginning", func(g *api.Greeting) { copy(g.Nonce, climbing(201, 8)) }, 9, 17},
		{"Caps below 2^16", func(g *api.Greeting) { g.Caps ^= 0x7dff }, 18, 20},
		{"Charset", func(g *api.Greeting) { g.Charset = 210 }, 20, 21},
		{"Status", func(g *api.Greeting) { g.Status = 0xfdfc }, 21, 23},
		{"Caps from 2^16 on", func(g *api.Greeting) { g.Caps ^= 0xfff70000 }, 23, 25},
		{"the Nonce's end", func(g *api.Greeting) { copy(g.Nonce[8:], climbing(221, 12)) }, 36, 48},
		{"Plugin", func(g *api.Greeting) { g.Plugin = "xy" }, 49, 51},
	} {
		g := basicGreeting()
		c.change(&g)
		wantOnly(t, c.name, ofGreeting(basicGreeting()), ofGreeting(g), c.from, c.to)
	}
	for _, c := range []struct {
		name     string
		change   func(a *api.Answer)
		from, to int
	}{
		{"Caps", func(a *api.Answer) { a.Caps ^= 0xc2c77df7 }, 0, 4},
		{"Most", func(a *api.Answer) { a.Most = 0xfdfcfbfa }, 4, 8},
		{"Charset", func(a *api.Answer) { a.Charset = 210 }, 8, 9},
		{"User", func(a *api.Answer) { a.User = "xyz" }, 32, 35},
		{"Response", func(a *api.Answer) { a.Response = []byte{1, 2, 3} }, 37, 40},
		{"Schema", func(a *api.Answer) { a.Schema = "xy" }, 40, 42},
		{"Plugin", func(a *api.Answer) { a.Plugin = "xy" }, 43, 45},
		{"a Name", func(a *api.Answer) { a.Attrs[0].Name = "x" }, 48, 49},
		{"a Value", func(a *api.Answer) { a.Attrs[0].Value = "xyz" }, 50, 53},
		{"the last Value", func(a *api.Answer) { a.Attrs[1].Value = "x" }, 55, 56},
	} {
		a := basicAnswer()
		c.change(&a)
		wantOnly(t, c.name, ofAnswer(basicAnswer()), ofAnswer(a), c.from, c.to)
	}
}

// wantOnly asks that two samples' bytes differ in all places from one to another, and in no others.
func wantOnly(t *testing.T, name string, s, other sample, from, to int) {
	t.Helper()
	b, e := s.put(nil)
	changed, otherE := other.put(nil)
	if e != api.OK || otherE != api.OK || len(b) != len(changed) {
		t.Fatalf("%s: %s, %v, and %s, %v", name, brief(b), e, brief(changed), otherE)
	}
	for i := range b {
		if is := i >= from && i < to; is != (b[i] != changed[i]) {
			t.Errorf("%s: at %d: %d and %d", name, i, b[i], changed[i])
		}
	}
	wantRead(t, name, other, changed, other.thing)
}

// spoiltTexts is a text with a byte 0: first, within, last, alone.
func spoiltTexts() []string {
	return []string{"\x00", "\x00a", "a\x00b", "ab\x00", "a\x00\x00", strings.Repeat("x", 300) + "\x00"}
}

// wrongNonces may not be: of another length, or with a byte 0 or 36 at each place.
func wrongNonces() [][]byte {
	l := [][]byte{nil, {}, {1}, climbing(1, 8), climbing(1, 12), climbing(1, 19), climbing(1, 21), append(nonce(), 0), climbing(1, 33), make([]byte, 20), climbing(60, 150)}
	for at := range 20 {
		l = append(l, with(nonce(), at, 0), with(nonce(), at, 36))
	}
	return l
}

// wrongCaps have less than the needed ones, whatever else they have.
func wrongCaps() []api.Caps {
	const all = api.Caps(1<<32 - 1)
	return []api.Caps{0, api.CapProtocol41, api.CapSecure, full &^ api.CapProtocol41, full &^ api.CapSecure, all &^ core, all &^ api.CapSecure, all &^ api.CapProtocol41,
		api.CapProtocol41 | api.CapReserved, api.CapSecure | api.CapIgnoreSpace, api.CapProtocol41 | 1<<31}
}

func TestP12_1WrongGreetings(t *testing.T) {
	refused := func(name string, change func(g *api.Greeting)) {
		t.Helper()
		for _, g := range []api.Greeting{basicGreeting(), {Version: "8", Nonce: nonce(), Caps: core}} {
			change(&g)
			wantRefused(t, name, func(b []byte) ([]byte, api.Errno) { return greet.AppendGreeting(b, g) })
		}
	}
	for _, s := range spoiltTexts() {
		refused("Version", func(g *api.Greeting) { g.Version = s })
		refused("Plugin", func(g *api.Greeting) { g.Plugin = s })
		refused("Plugin", func(g *api.Greeting) { g.Plugin, g.Caps = s, full })
	}
	for _, nonce := range wrongNonces() {
		refused(fmt.Sprint("the nonce ", nonce), func(g *api.Greeting) { g.Nonce = nonce })
	}
	for _, c := range wrongCaps() {
		refused(fmt.Sprint("Caps ", c), func(g *api.Greeting) { g.Caps, g.Plugin = c, "" })
	}
	for _, s := range []string{"p", api.NativePlugin, "\xff"} {
		refused("a Plugin without PluginAuth", func(g *api.Greeting) { g.Plugin, g.Caps = s, full&^api.CapPluginAuth })
	}
}

// TestP12_1WrongAnswers has wrong answers, and wrong changes of user that say the same, by the capabilities that are handed.
func TestP12_1WrongAnswers(t *testing.T) {
	refused := func(name string, c api.Caps, change func(a *api.Answer)) {
		t.Helper()
		for _, a := range []api.Answer{{User: "u"}, {}, {Response: []byte{1}, Most: 7, Charset: 8}} {
			change(&a)
			a.Caps = c
			wantRefused(t, "answer: "+name, func(b []byte) ([]byte, api.Errno) { return greet.AppendAnswer(b, a) })
			wantRefused(t, "change: "+name, func(b []byte) ([]byte, api.Errno) { return greet.AppendChange(b, c, changeOf(a, 9)) })
		}
	}
	for _, c := range flagSets() {
		for _, s := range spoiltTexts() {
			refused("User", c, func(a *api.Answer) { a.User = s })
			refused("Schema", c, func(a *api.Answer) { a.Schema = s })
			refused("Plugin", c, func(a *api.Answer) { a.Plugin = s })
		}
		for _, n := range []int{256, 257, 300, 511, 512, 65536 + 3} {
			refused(fmt.Sprint("a Response of ", n), c, func(a *api.Answer) { a.Response = make([]byte, n) })
		}
		for _, n := range []int{65, 66, 128, 256, 257, 1000} {
			refused(fmt.Sprint("Attrs: ", n), c, func(a *api.Answer) { a.Attrs = make([]api.Attr, n) })
		}
		if c&api.CapConnectWithDB == 0 {
			refused("a Schema", c, func(a *api.Answer) { a.Schema = "d" })
		}
		if c&api.CapPluginAuth == 0 {
			refused("a Plugin", c, func(a *api.Answer) { a.Plugin = "p" })
		}
		if c&api.CapConnectAttrs == 0 {
			refused("an Attr", c, func(a *api.Answer) { a.Attrs = make([]api.Attr, 1) })
			refused("Attrs", c, func(a *api.Answer) { a.Attrs = manyAttrs(3) })
		}
	}
	for _, c := range wrongCaps() {
		refused(fmt.Sprint("Caps ", c), c, func(a *api.Answer) {})
	}
}

func TestP12_1WrongSwitches(t *testing.T) {
	refused := func(name string, s api.Switch) {
		t.Helper()
		wantRefused(t, name, func(b []byte) ([]byte, api.Errno) { return greet.AppendSwitch(b, s) })
	}
	for _, s := range spoiltTexts() {
		refused("Plugin", api.Switch{Plugin: s, Nonce: nonce()})
	}
	for _, nonce := range wrongNonces() {
		refused(fmt.Sprint("the nonce ", nonce), api.Switch{Plugin: "p", Nonce: nonce})
		refused(fmt.Sprint("the nonce ", nonce), api.Switch{Nonce: nonce})
	}
}

// TestP12_1NamesAndValues may have any bytes, a 0 too, and any length.
func TestP12_1NamesAndValues(t *testing.T) {
	for _, s := range append(spoiltTexts(), "", "a", string(climbing(0, 256)), strings.Repeat("y", 65535), strings.Repeat("y", 65536)) {
		for _, l := range [][]api.Attr{{{Name: s}}, {{Value: s}}, {{Name: s, Value: s}, {Name: s, Value: s}}, {{Name: s, Value: s}, {}, {Name: "x", Value: s}}} {
			for _, x := range []sample{ofAnswer(api.Answer{Caps: attred, Attrs: l}), ofChange(attred, api.ChangeUser{Attrs: l})} {
				wantBytes(t, x, []byte{1}, append([]byte{1}, x.bytes...))
				wantRead(t, "names and values", x, x.bytes, x.thing)
			}
		}
	}
}

// TestP12_1Longest has a count of the attributes that three bytes can't tell.
func TestP12_1Longest(t *testing.T) {
	for _, n := range []int{1<<24 - 6, 1<<24 - 5, 1<<24 - 1, 1 << 24} {
		s := ofAnswer(api.Answer{Caps: attred, Attrs: []api.Attr{{Value: strings.Repeat("x", n)}}})
		wantBytes(t, s, nil, s.bytes)
		wantRead(t, "long", s, s.bytes, s.thing)
		wantError(t, "cut", s, s.bytes[:len(s.bytes)-1], api.ErrShort)
		wantError(t, "a byte more", s, append(bytes.Clone(s.bytes), 0), api.ErrBad)
	}
}

// TestP12_2FirstByte has each other first byte, in front of all that belongs there, and alone; an answer begins with its Caps.
func TestP12_2FirstByte(t *testing.T) {
	for _, s := range joined(greetings(), switches(), mores(), changes()) {
		for x := range 256 {
			if byte(x) == s.bytes[0] {
				continue
			}
			wantError(t, "another first byte", s, with(s.bytes, 0, byte(x)), api.ErrBad)
			wantError(t, "another first byte alone", s, []byte{byte(x)}, api.ErrBad)
		}
	}
}

func TestP12_2Nothing(t *testing.T) {
	for _, s := range samples() {
		wantError(t, "nil", s, nil, api.ErrShort)
		wantError(t, "nothing", s, []byte{}, api.ErrShort)
		wantError(t, "nothing, with bytes behind its end", s, s.bytes[:0], api.ErrShort)
	}
	for _, c := range append(flagSets(), wrongCaps()...) {
		if u, e := greet.ReadChange(nil, c); e != api.ErrShort || !isNothing(u) {
			t.Errorf("ReadChange of nothing by %x: %v, %v", c, u, e)
		}
	}
}

// TestP12_2Zeros turns each byte that must be 0 into others; where the bytes end within them, nothing is wrong with them yet.
func TestP12_2Zeros(t *testing.T) {
	g, a, s := basicGreeting(), basicAnswer(), basicSwitch()
	for _, c := range []struct {
		s        sample
		from, to int
	}{
		{ofGreeting(g), 17, 18}, {ofGreeting(g), 26, 36}, {ofGreeting(g), 48, 49}, {ofAnswer(a), 9, 32}, {ofSwitch(s), 24, 25},
	} {
		for at := c.from; at < c.to; at++ {
			for _, x := range []byte{1, 21, 36, 128, 255} {
				b := with(c.s.bytes, at, x)
				wantError(t, fmt.Sprint("at ", at), c.s, b, api.ErrBad)
				wantError(t, fmt.Sprint("whole at ", at), c.s, b[:c.to], api.ErrBad)
				for end := at + 1; end < c.to; end++ {
					wantError(t, fmt.Sprint("not whole at ", at), c.s, b[:end], api.ErrShort)
				}
			}
		}
	}
}

// TestP12_2NonceSize has each byte where a greeting tells 21 or 0.
func TestP12_2NonceSize(t *testing.T) {
	const at = 25
	plain := basicGreeting()
	plain.Caps, plain.Plugin = full&^api.CapPluginAuth, ""
	for _, c := range []struct {
		s    sample
		size byte
	}{{ofGreeting(basicGreeting()), 21}, {ofGreeting(plain), 0}} {
		for x := range 256 {
			b := with(c.s.bytes, at, byte(x))
			if byte(x) == c.size {
				wantRead(t, "its size", c.s, b, c.s.thing)
				wantError(t, "its size alone", c.s, b[:at+1], api.ErrShort)
				continue
			}
			wantError(t, fmt.Sprint("the size ", x), c.s, b, api.ErrBad)
			wantError(t, fmt.Sprint("the size alone ", x), c.s, b[:at+1], api.ErrBad)
		}
	}
}

// TestP12_2Nonces has wrong bytes in nonces, each at its place: wrong as soon as that part of the nonce is whole.
func TestP12_2Nonces(t *testing.T) {
	for _, c := range []struct {
		s        sample
		from, to int
	}{{ofGreeting(basicGreeting()), 9, 17}, {ofGreeting(basicGreeting()), 36, 48}, {ofSwitch(basicSwitch()), 4, 24}} {
		for at := c.from; at < c.to; at++ {
			for _, x := range []byte{0, 36} {
				b := with(c.s.bytes, at, x)
				wantError(t, fmt.Sprint("nonce at ", at), c.s, b, api.ErrBad)
				wantError(t, fmt.Sprint("nonce whole at ", at), c.s, b[:c.to], api.ErrBad)
				for end := at + 1; end < c.to; end++ {
					wantError(t, fmt.Sprint("nonce not whole at ", at), c.s, b[:end], api.ErrShort)
				}
			}
			for _, x := range []byte{1, 35, 37, 255} {
				b := with(c.s.bytes, at, x)
				if _, e := c.s.read(b); e != api.OK {
					t.Errorf("%s: %d at %d: %v", c.s.name, x, at, e)
				}
			}
		}
	}
}

// TestP12_2Caps has capabilities without the needed ones: wrong as soon as they are whole, in a greeting the lower two bytes.
func TestP12_2Caps(t *testing.T) {
	for _, c := range wrongCaps() {
		s := ofGreeting(basicGreeting())
		b := bytes.Clone(s.bytes)
		copy(b[18:], two(uint16(c)))
		for end := 20; end <= len(b); end++ {
			wantError(t, fmt.Sprint("Caps ", c), s, b[:end], api.ErrBad)
		}
		wantError(t, fmt.Sprint("half of Caps ", c), s, b[:19], api.ErrShort)
		s = ofAnswer(basicAnswer())
		b = join(four(uint32(c)), s.bytes[4:])
		for end := 4; end <= len(b); end++ {
			wantError(t, fmt.Sprint("Caps ", c), s, b[:end], api.ErrBad)
		}
		for end := range 4 {
			wantError(t, fmt.Sprint("a part of Caps ", c), s, b[:end], api.ErrShort)
		}
	}
}

// TestP12_2ChangeCaps reads by other capabilities than those by which was written.
func TestP12_2ChangeCaps(t *testing.T) {
	for _, s := range changes() {
		for _, c := range append(flagSets(), wrongCaps()...) {
			other := ofChange(c, s.thing.(api.ChangeUser))
			for end := range len(s.bytes) + 1 {
				e := wantPlain(t, "by others", other, s.bytes[:end])
				if c&core != core && end > 0 && e != api.ErrBad {
					t.Errorf("%s by %x, cut at %d: %v", s.name, c, end, e)
				}
			}
		}
	}
	schema := []byte{17, 'u', 0, 0, 'd', 0, 45, 0}
	wantRead(t, "a Schema", ofChange(withDB, api.ChangeUser{}), schema, api.ChangeUser{User: "u", Schema: "d", Charset: 45})
	none := ofChange(core, api.ChangeUser{})
	wantError(t, "a Schema without ConnectWithDB", none, schema, api.ErrBad)
	wantError(t, "a whole Schema without ConnectWithDB", none, schema[:6], api.ErrBad)
	wantError(t, "a part of a Schema without ConnectWithDB", none, schema[:5], api.ErrShort)
	wantRead(t, "no Schema", none, []byte{17, 'u', 0, 0, 0, 45, 0}, api.ChangeUser{User: "u", Charset: 45})
	wantError(t, "no Plugin", ofChange(plugged, api.ChangeUser{}), []byte{17, 'u', 0, 0, 0, 45, 0}, api.ErrShort)
	wantError(t, "no attributes", ofChange(attred, api.ChangeUser{}), []byte{17, 'u', 0, 0, 0, 45, 0}, api.ErrShort)
	wantError(t, "a Plugin", none, []byte{17, 'u', 0, 0, 0, 45, 0, 'p', 0}, api.ErrBad)
}

// forms is each form in which a number may be counted.
func forms(x int) [][]byte {
	var l [][]byte
	if x <= 250 {
		l = append(l, []byte{byte(x)})
	}
	if x < 1<<16 {
		l = append(l, join([]byte{252}, two(uint16(x))))
	}
	return append(l, join([]byte{253}, four(uint32(x))[:3]), join([]byte{254}, four(uint32(x)), zeros(4)))
}

// answerHead is an answer's bytes ahead of the Response.
func answerHead(c api.Caps) []byte {
	return join(four(uint32(c)), four(9), []byte{45}, zeros(23), ended("u"))
}

// TestP12_2CountedResponses has responses of all lengths around 255 in all forms: a longer one is wrong once it is whole.
func TestP12_2CountedResponses(t *testing.T) {
	s := ofAnswer(api.Answer{Caps: counted})
	for _, n := range []int{0, 1, 2, 249, 250, 251, 252, 254, 255, 256, 257, 300, 65535, 65536} {
		response := bytes.Repeat([]byte{0, 251, 7}, n/3+1)[:n]
		for _, form := range forms(n) {
			b := join(answerHead(counted), form, response)
			if n <= 255 {
				wantRead(t, fmt.Sprint("counted ", n), s, b, api.Answer{Caps: counted, Most: 9, Charset: 45, User: "u", Response: response})
			} else {
				wantError(t, fmt.Sprint("counted ", n), s, b, api.ErrBad)
			}
			wantError(t, fmt.Sprint("a byte more than ", n), s, append(b, 0), api.ErrBad)
			wantError(t, fmt.Sprint("a byte less than ", n), s, b[:len(b)-1], api.ErrShort)
			for end := range form {
				wantError(t, fmt.Sprint("a part of the form of ", n), s, join(answerHead(counted), form[:end]), api.ErrShort)
			}
		}
	}
	for _, first := range []byte{251, 255} {
		wantError(t, "no form", s, join(answerHead(counted), []byte{first}), api.ErrBad)
		wantError(t, "no form", s, join(answerHead(counted), []byte{first, 0, 0, 0, 0, 0, 0, 0, 0}), api.ErrBad)
	}
	for _, form := range [][]byte{{254, 255, 255, 255, 255, 255, 255, 255, 255}, {254, 0, 0, 0, 0, 0, 0, 0, 128}, {254, 1, 0, 0, 0, 1, 0, 0, 0}} {
		wantError(t, "beyond all", s, join(answerHead(counted), form, zeros(40)), api.ErrShort)
	}
}

// TestP12_2ShortResponses has each length that one byte can tell, 251 and its like too, without LenencAuth.
func TestP12_2ShortResponses(t *testing.T) {
	for n := range 256 {
		response := climbing(200, n)
		a := api.Answer{Caps: core, Most: 9, Charset: 45, User: "u", Response: response}
		b := join(answerHead(core), []byte{byte(n)}, response)
		wantRead(t, "short", ofAnswer(a), b, a)
		u := api.ChangeUser{User: "u", Response: response, Charset: 1}
		change := join([]byte{17, 'u', 0, byte(n)}, response, []byte{0, 1, 0})
		wantRead(t, "short", ofChange(counted, u), change, u)
		if n > 0 {
			wantError(t, "short by one", ofAnswer(a), b[:len(b)-1], api.ErrShort)
			wantError(t, "short by one", ofChange(core, u), change[:3+n], api.ErrShort)
		}
	}
}

// attrBy is bytes up to the attributes of an answer and of a change of user, with the calls to read them.
func attrBy() []struct {
	s    sample
	head []byte
	told func(l []api.Attr) any
} {
	return []struct {
		s    sample
		head []byte
		told func(l []api.Attr) any
	}{
		{ofAnswer(api.Answer{Caps: attred}), append(answerHead(attred), 0), func(l []api.Attr) any {
			return api.Answer{Caps: attred, Most: 9, Charset: 45, User: "u", Attrs: l}
		}},
		{ofChange(attred, api.ChangeUser{}), []byte{17, 'u', 0, 0, 0, 45, 0}, func(l []api.Attr) any {
			return api.ChangeUser{User: "u", Charset: 45, Attrs: l}
		}},
		{ofAnswer(api.Answer{Caps: full}), join(answerHead(full), []byte{0, 0, 'p', 0}), func(l []api.Attr) any {
			return api.Answer{Caps: full, Most: 9, Charset: 45, User: "u", Plugin: "p", Attrs: l}
		}},
	}
}

// TestP12_2AttrForms has the attributes' count, a name and a value in all forms.
func TestP12_2AttrForms(t *testing.T) {
	for _, x := range attrBy() {
		for _, name := range forms(1) {
			for _, value := range forms(2) {
				within := join(name, []byte("n"), value, []byte("va"))
				for _, count := range forms(len(within)) {
					b := join(x.head, count, within)
					wantRead(t, "forms", x.s, b, x.told([]api.Attr{{Name: "n", Value: "va"}}))
					wantError(t, "a byte more", x.s, append(b, 0), api.ErrBad)
					for end := len(x.head); end < len(b); end++ {
						wantError(t, "cut", x.s, b[:end], api.ErrShort)
					}
				}
			}
		}
		for _, count := range forms(0) {
			wantRead(t, "none", x.s, join(x.head, count), x.told(nil))
			wantError(t, "none and a byte", x.s, join(x.head, count, []byte{0}), api.ErrBad)
		}
	}
}

// TestP12_2WrongAttrs has what is wrong within as many bytes as the count says, and counts that are wrong themselves.
func TestP12_2WrongAttrs(t *testing.T) {
	for _, x := range attrBy() {
		for _, within := range [][]byte{
			{0}, {1}, {1, 'n'}, {5, 'n'}, {1, 'n', 1}, {1, 'n', 3, 'v', 'a'}, {1, 'n', 1, 'v', 0}, {1, 'n', 1, 'v', 1, 'n'}, {0, 0, 0}, {0, 0, 7},
			{251}, {255}, {251, 0}, {255, 0}, {0, 251}, {0, 255}, {0, 0, 251, 0}, {1, 'n', 251}, {252}, {252, 1}, {252, 1, 0}, {253, 0, 0}, {254, 0, 0, 0, 0, 0, 0, 0},
			{254, 255, 255, 255, 255, 255, 255, 255, 255}, {0, 254, 255, 255, 255, 255, 255, 255, 255, 255}, {0, 254, 0, 0, 0, 0, 0, 0, 0, 128, 0, 0},
		} {
			for _, count := range forms(len(within)) {
				wantError(t, "within", x.s, join(x.head, count, within), api.ErrBad)
				wantError(t, "within, and left", x.s, join(x.head, count, within, []byte{1, 'v', 0, 0}), api.ErrBad)
				wantError(t, "within, not whole", x.s, join(x.head, count, within[:len(within)-1]), api.ErrShort)
			}
		}
		two := []byte{1, 'n', 1, 'v', 1, 'm', 2, 'v', 'w'}
		for count := range 30 {
			b := join(x.head, []byte{byte(count)}, two)
			switch {
			case count == len(two):
				wantRead(t, "both", x.s, b, x.told([]api.Attr{{Name: "n", Value: "v"}, {Name: "m", Value: "vw"}}))
			case count < len(two):
				wantError(t, fmt.Sprint("too small: ", count), x.s, b, api.ErrBad)
			default:
				wantError(t, fmt.Sprint("too great: ", count), x.s, b, api.ErrShort)
			}
		}
		for _, count := range [][]byte{{251}, {255}, {251, 0}, {255, 1, 0, 0, 0, 0, 0, 0, 0}} {
			wantError(t, "no count", x.s, join(x.head, count), api.ErrBad)
		}
		for _, count := range [][]byte{{}, {252}, {252, 0}, {253, 0, 0}, {254, 0, 0, 0, 0, 0, 0, 0}, {254, 255, 255, 255, 255, 255, 255, 255, 255}, {254, 0, 0, 0, 0, 0, 0, 0, 128}} {
			wantError(t, "no whole count", x.s, join(x.head, count), api.ErrShort)
		}
	}
}

// TestP12_2ManyAttrs has up to 64 attributes, and more, which are wrong once their bytes are whole.
func TestP12_2ManyAttrs(t *testing.T) {
	for _, x := range attrBy() {
		for _, n := range []int{0, 1, 2, 63, 64, 65, 66, 128, 200} {
			for _, l := range [][]api.Attr{make([]api.Attr, n), manyAttrs(n)} {
				within := attrBytes(l)
				b := join(x.head, number(len(within)), within)
				if n <= 64 {
					wantRead(t, fmt.Sprint(n), x.s, b, x.told(l))
				} else {
					wantError(t, fmt.Sprint(n), x.s, b, api.ErrBad)
				}
				for end := len(x.head); end < len(b); end++ {
					wantError(t, fmt.Sprint("a part of ", n), x.s, b[:end], api.ErrShort)
				}
				wantError(t, fmt.Sprint("more than ", n), x.s, append(b, 0), api.ErrBad)
			}
		}
		wantError(t, "64 and a half", x.s, join(x.head, []byte{129}, zeros(129)), api.ErrBad)
	}
}

// TestP12_2FirstFault has two faults: the one that is met first is told.
func TestP12_2FirstFault(t *testing.T) {
	g, a, s, u := ofGreeting(basicGreeting()), ofAnswer(basicAnswer()), ofSwitch(basicSwitch()), ofChange(full, basicChange())
	for _, c := range []struct {
		name string
		s    sample
		b    []byte
		want api.Errno
	}{
		{"another mark, then cut", g, []byte{9, 'v'}, api.ErrBad},
		{"no end of Version, with all that is wrong", g, append([]byte{10}, bytes.Repeat([]byte{36}, 60)...), api.ErrShort},
		{"a wrong nonce, then cut", g, with(g.bytes, 10, 36)[:17], api.ErrBad},
		{"no byte 0, then cut", g, with(g.bytes, 17, 1)[:18], api.ErrBad},
		{"no Caps, then cut", g, with(g.bytes, 19, 0)[:20], api.ErrBad},
		{"a wrong size, then cut", g, with(g.bytes, 25, 20)[:26], api.ErrBad},
		{"ten bytes that are not whole, one of them wrong", g, with(g.bytes, 26, 1)[:35], api.ErrShort},
		{"ten bytes, one of them wrong, then cut", g, with(g.bytes, 26, 1)[:36], api.ErrBad},
		{"a wrong end of the nonce, then cut", g, with(g.bytes, 47, 36)[:48], api.ErrBad},
		{"no byte 0 behind the nonce, then cut", g, with(g.bytes, 48, 7)[:49], api.ErrBad},
		{"a Plugin without its end", g, g.bytes[:len(g.bytes)-1], api.ErrShort},
		{"a Plugin that ends within, and bytes left", g, with(g.bytes, 49, 0), api.ErrBad},
		{"no Caps, and bytes that are not 0", a, with(with(a.bytes, 1, 0), 9, 1), api.ErrBad},
		{"a part of no Caps", a, []byte{0, 0, 0}, api.ErrShort},
		{"23 bytes that are not whole, one of them wrong", a, with(a.bytes, 9, 1)[:31], api.ErrShort},
		{"23 bytes, one of them wrong, then cut", a, with(a.bytes, 9, 1)[:32], api.ErrBad},
		{"no end of User", a, a.bytes[:35], api.ErrShort},
		{"no Response, then cut", a, with(a.bytes, 36, 251)[:37], api.ErrBad},
		{"a Response beyond the end, with wrong attributes behind it", a, with(with(a.bytes, 36, 200), 47, 251), api.ErrShort},
		{"no count of the attributes", a, with(a.bytes, 46, 255), api.ErrBad},
		{"a count too great, with wrong attributes", a, with(with(a.bytes, 46, 11), 47, 251), api.ErrShort},
		{"wrong attributes", a, with(a.bytes, 47, 251), api.ErrBad},
		{"another mark, then cut", s, []byte{253}, api.ErrBad},
		{"no end of Plugin, with a wrong nonce behind it", s, append([]byte{254}, bytes.Repeat([]byte{36}, 60)...), api.ErrShort},
		{"a wrong nonce, then cut", s, with(s.bytes, 4, 36)[:24], api.ErrBad},
		{"a wrong nonce that is not whole", s, with(s.bytes, 4, 36)[:23], api.ErrShort},
		{"no byte 0, and bytes left", s, append(with(s.bytes, 24, 1), 0), api.ErrBad},
		{"another mark, then cut", u, []byte{16}, api.ErrBad},
		{"a Response beyond the end", u, with(u.bytes, 5, 200), api.ErrShort},
		{"a Charset that is not whole", u, u.bytes[:13], api.ErrShort},
		{"no count of the attributes, then cut", u, with(u.bytes, 17, 251)[:18], api.ErrBad},
		{"a count too great, with wrong attributes", u, with(with(u.bytes, 17, 11), 18, 251), api.ErrShort},
	} {
		wantError(t, c.name, c.s, c.b, c.want)
	}
}

func TestP12_2More(t *testing.T) {
	s := ofMore(nil)
	wantError(t, "nothing", s, nil, api.ErrShort)
	wantRead(t, "1 alone", s, []byte{1}, []byte{})
	for x := range 256 {
		wantRead(t, "1 and a byte", s, []byte{1, byte(x)}, []byte{byte(x)})
		if x == 1 {
			continue
		}
		for _, behind := range [][]byte{nil, {1}, {3}, climbing(1, 40)} {
			wantError(t, "another first byte", s, append([]byte{byte(x)}, behind...), api.ErrBad)
		}
	}
	for _, n := range []int{2, 255, 256, 70000} {
		wantRead(t, "many", s, append([]byte{1}, climbing(0, n)...), climbing(0, n))
		if b := greet.AppendMore([]byte{1, 2}, climbing(0, n)); !bytes.Equal(b, append([]byte{1, 2, 1}, climbing(0, n)...)) {
			t.Errorf("AppendMore of %d: %s", n, brief(b))
		}
	}
}

// spoilers are bytes that mean something somewhere, and such as are near to x.
func spoilers(x byte) []byte {
	return []byte{0, 1, 2, 10, 17, 21, 35, 36, 37, 250, 251, 252, 253, 254, 255, x ^ 1, x ^ 2, x ^ 8, x ^ 128, x + 1, x - 1}
}

// TestP12_2Spoilt holds reads against the plain words: each byte another, one taken out, one put in, and then cut somewhere.
func TestP12_2Spoilt(t *testing.T) {
	r := drawer(12)
	told := map[api.Errno]int{}
	for _, s := range samples() {
		for at := range s.bytes {
			spoilt := [][]byte{slices.Delete(bytes.Clone(s.bytes), at, at+1)}
			for _, x := range spoilers(s.bytes[at]) {
				spoilt = append(spoilt, with(s.bytes, at, x))
			}
			spoilt = append(spoilt, slices.Insert(bytes.Clone(s.bytes), at, spoilers(0)[r.Intn(21)]))
			for _, b := range spoilt {
				told[wantPlain(t, "spoilt", s, b)]++
				for _, end := range []int{at + 1, at + 2, at + r.Intn(30), r.Intn(len(b) + 1)} {
					told[wantPlain(t, "spoilt and cut", s, b[:min(end, len(b))])]++
				}
				told[wantPlain(t, "spoilt and more", s, append(b, byte(r.Intn(256))))]++
			}
		}
		if t.Failed() {
			return
		}
	}
	for _, e := range []api.Errno{api.OK, api.ErrShort, api.ErrBad} {
		if told[e] < 5000 {
			t.Errorf("only %d times %v", told[e], e)
		}
	}
}

// TestP12_2AnyBytes reads bytes by chance, few of them other than those that mean something.
func TestP12_2AnyBytes(t *testing.T) {
	r := drawer(1212)
	l := samples()
	for range 200000 {
		s := l[r.Intn(len(l))]
		b := bytes.Clone(s.bytes[:r.Intn(len(s.bytes)+1)])
		for range r.Intn(40) {
			b = append(b, spoilers(byte(r.Intn(256)))[r.Intn(21)])
		}
		wantPlain(t, "by chance", s, b)
	}
}

// drawnText has a byte 0 now and then.
func drawnText(r *rand.Rand) string {
	s := string(climbing(byte(1+r.Intn(200)), r.Intn(5)))
	if r.Intn(30) == 0 {
		s += "\x00"
	}
	return s
}

func drawnCaps(r *rand.Rand) api.Caps {
	c := api.Caps(r.Uint32()) | core
	if r.Intn(20) == 0 {
		c &^= []api.Caps{api.CapProtocol41, api.CapSecure, core}[r.Intn(3)]
	}
	return c
}

func drawnNonce(r *rand.Rand) []byte {
	b := climbing(byte(40+r.Intn(190)), 20)
	switch r.Intn(30) {
	case 0:
		b[r.Intn(20)] = 0
	case 1:
		b[r.Intn(20)] = 36
	case 2:
		b = b[:r.Intn(20)]
	}
	return b
}

func drawnAnswer(r *rand.Rand) api.Answer {
	a := api.Answer{Caps: drawnCaps(r), Most: r.Uint32(), Charset: byte(r.Intn(256)), User: drawnText(r), Response: climbing(byte(r.Intn(256)), r.Intn(258)),
		Schema: drawnText(r), Plugin: drawnText(r)}
	for range r.Intn(4) {
		a.Attrs = append(a.Attrs, api.Attr{Name: drawnText(r), Value: drawnText(r)})
	}
	if r.Intn(20) == 0 {
		a.Attrs = manyAttrs(60 + r.Intn(9))
	}
	if r.Intn(6) != 0 {
		a = onlyBy(a)
	}
	return a
}

// TestP12_3Drawn appends things by chance, most of which may be, and reads them back.
func TestP12_3Drawn(t *testing.T) {
	r := drawer(123)
	may := 0
	check := func(s func() sample, is bool, put func(b []byte) ([]byte, api.Errno)) {
		if !is {
			wantRefused(t, "drawn", put)
			return
		}
		may++
		x := s()
		wantBytes(t, x, []byte{5}, append([]byte{5}, x.bytes...))
		wantRead(t, "drawn", x, x.bytes, x.thing)
		cut := r.Intn(len(x.bytes))
		if _, isMore := x.thing.([]byte); !isMore {
			wantError(t, "drawn and cut", x, x.bytes[:cut], api.ErrShort)
			wantError(t, "drawn and more", x, append(bytes.Clone(x.bytes), byte(r.Intn(256))), api.ErrBad)
		}
	}
	for range 20000 {
		g := api.Greeting{Version: drawnText(r), Thread: r.Uint32(), Nonce: drawnNonce(r), Caps: drawnCaps(r), Charset: byte(r.Intn(256)), Status: uint16(r.Intn(65536)), Plugin: drawnText(r)}
		if g.Caps&api.CapPluginAuth == 0 && r.Intn(6) != 0 {
			g.Plugin = ""
		}
		check(func() sample { return ofGreeting(g) }, plainGreetingMay(g), func(b []byte) ([]byte, api.Errno) { return greet.AppendGreeting(b, g) })
		a := drawnAnswer(r)
		check(func() sample { return ofAnswer(a) }, plainAnswerMay(a), func(b []byte) ([]byte, api.Errno) { return greet.AppendAnswer(b, a) })
		s := api.Switch{Plugin: drawnText(r), Nonce: drawnNonce(r)}
		check(func() sample { return ofSwitch(s) }, plainSwitchMay(s), func(b []byte) ([]byte, api.Errno) { return greet.AppendSwitch(b, s) })
		a = drawnAnswer(r)
		c, u := a.Caps, changeOf(a, uint16(r.Intn(65536)))
		check(func() sample { return ofChange(c, u) }, plainChangeMay(c, u), func(b []byte) ([]byte, api.Errno) { return greet.AppendChange(b, c, u) })
	}
	if may < 40000 {
		t.Errorf("only %d might be", may)
	}
}

// TestP12_3Samples reads back what was appended; each shorter part is short, and a byte more, whichever, is too many.
func TestP12_3Samples(t *testing.T) {
	for _, s := range joined(greetings(), answers(), switches(), changes()) {
		b, e := s.put(nil)
		if e != api.OK {
			t.Errorf("%s: %v", s.name, e)
			continue
		}
		wantRead(t, "as it was", s, b, s.thing)
		for end := range b {
			wantError(t, "cut", s, b[:end], api.ErrShort)
		}
		for x := range 256 {
			wantError(t, "a byte more", s, append(bytes.Clone(b), byte(x)), api.ErrBad)
		}
		wantError(t, "itself once more", s, join(b, b), api.ErrBad)
	}
	for _, s := range mores() {
		b, _ := s.put(nil)
		wantRead(t, "as it was", s, b, s.thing)
	}
}

// TestT6AllKinds reads each packet as all the others.
func TestT6AllKinds(t *testing.T) {
	kinds := []sample{greetings()[0], answers()[0], switches()[0], mores()[0], changes()[0], changes()[2]}
	for _, s := range samples() {
		for _, kind := range kinds {
			for end := range len(s.bytes) + 1 {
				wantPlain(t, s.name, kind, s.bytes[:end])
			}
		}
	}
}
