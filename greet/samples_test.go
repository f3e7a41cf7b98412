package greet_test

import (
	"bytes"
	"fmt"
	"math/rand"
	"reflect"
	"strings"
	"testing"

	"sluicegate/api"
	"sluicegate/greet"
)

// sample is a thing that may be, with its bytes as the chapter says them, and the calls that are about it.
type sample struct {
	name  string
	thing any
	bytes []byte
	put   func(b []byte) ([]byte, api.Errno)
	read  func(b []byte) (any, api.Errno)
	plain func(b []byte) (any, api.Errno)
}

func ofGreeting(g api.Greeting) sample {
	return sample{
		fmt.Sprintf("greeting %.20q %.20q %x", g.Version, g.Plugin, g.Caps), g, plainGreeting(g),
		func(b []byte) ([]byte, api.Errno) { return greet.AppendGreeting(b, g) },
		func(b []byte) (any, api.Errno) { return greet.ReadGreeting(b) },
		func(b []byte) (any, api.Errno) { return readGreeting(b) },
	}
}

func ofAnswer(a api.Answer) sample {
	return sample{
		fmt.Sprintf("answer %.20q %x with %d and %d", a.User, a.Caps, len(a.Response), len(a.Attrs)), a, plainAnswer(a),
		func(b []byte) ([]byte, api.Errno) { return greet.AppendAnswer(b, a) },
		func(b []byte) (any, api.Errno) { return greet.ReadAnswer(b) },
		func(b []byte) (any, api.Errno) { return readAnswer(b) },
	}
}

func ofSwitch(s api.Switch) sample {
	return sample{
		fmt.Sprintf("switch %.30q", s.Plugin), s, plainSwitch(s),
		func(b []byte) ([]byte, api.Errno) { return greet.AppendSwitch(b, s) },
		func(b []byte) (any, api.Errno) { return greet.ReadSwitch(b) },
		func(b []byte) (any, api.Errno) { return readSwitch(b) },
	}
}

func ofMore(more []byte) sample {
	return sample{
		fmt.Sprintf("more of %d", len(more)), more, append([]byte{1}, more...),
		func(b []byte) ([]byte, api.Errno) { return greet.AppendMore(b, more), api.OK },
		func(b []byte) (any, api.Errno) { return greet.ReadMore(b) },
		func(b []byte) (any, api.Errno) { return readMore(b) },
	}
}

func ofChange(c api.Caps, u api.ChangeUser) sample {
	return sample{
		fmt.Sprintf("change %.20q %x with %d and %d", u.User, c, len(u.Response), len(u.Attrs)), u, plainChange(c, u),
		func(b []byte) ([]byte, api.Errno) { return greet.AppendChange(b, c, u) },
		func(b []byte) (any, api.Errno) { return greet.ReadChange(b, c) },
		func(b []byte) (any, api.Errno) { return readChange(b, c) },
	}
}

// climbing is bytes one more each, from one on.
func climbing(from byte, n int) []byte {
	l := make([]byte, n)
	for i := range l {
		l[i] = from + byte(i)
	}
	return l
}

func nonce() []byte { return climbing(1, 20) }

// basicGreeting and its like are what the tests change one thing of.
func basicGreeting() api.Greeting {
	return api.Greeting{Version: "8.0", Thread: 0x04030201, Nonce: climbing(101, 20), Caps: plugged | 1<<31, Charset: 45, Status: 0x0602, Plugin: "pl"}
}

func basicAnswer() api.Answer {
	return api.Answer{Caps: full | 1<<30, Most: 0x08070605, Charset: 45, User: "usr", Response: []byte{7, 0, 36}, Schema: "db",
		Plugin: "pl", Attrs: []api.Attr{{Name: "n", Value: "val"}, {Name: "", Value: "\x00"}}}
}

func basicSwitch() api.Switch {
	return api.Switch{Plugin: "pl", Nonce: climbing(201, 20)}
}

func basicChange() api.ChangeUser {
	return api.ChangeUser{User: "usr", Response: []byte{7, 0, 36}, Schema: "db", Charset: 0x0102, Plugin: "pl",
		Attrs: []api.Attr{{Name: "n", Value: "val"}, {Name: "", Value: "\x00"}}}
}

// onlyBy keeps of an answer what its capabilities have.
func onlyBy(a api.Answer) api.Answer {
	if a.Caps&api.CapConnectWithDB == 0 {
		a.Schema = ""
	}
	if a.Caps&api.CapPluginAuth == 0 {
		a.Plugin = ""
	}
	if a.Caps&api.CapConnectAttrs == 0 {
		a.Attrs = nil
	}
	return a
}

// changeOf is the change of user that says what an answer says.
func changeOf(a api.Answer, charset uint16) api.ChangeUser {
	return api.ChangeUser{User: a.User, Response: a.Response, Schema: a.Schema, Charset: charset, Plugin: a.Plugin, Attrs: a.Attrs}
}

// flagSets is each set of the capabilities on which fields hang, with core.
func flagSets() []api.Caps {
	var l []api.Caps
	for i := range 16 {
		c := core
		for bit, flag := range []api.Caps{api.CapConnectWithDB, api.CapPluginAuth, api.CapConnectAttrs, api.CapLenencAuth} {
			if i>>bit%2 == 1 {
				c |= flag
			}
		}
		l = append(l, c)
	}
	return l
}

func manyAttrs(n int) []api.Attr {
	l := make([]api.Attr, n)
	for i := range l {
		l[i] = api.Attr{Name: strings.Repeat("n", i%3), Value: fmt.Sprint(i)}
	}
	return l
}

func greetings() []sample {
	var l []sample
	for _, g := range []api.Greeting{
		basicGreeting(),
		{Version: "8", Thread: 1, Nonce: nonce(), Caps: core, Charset: 45, Status: 2},
		{Nonce: bytes.Repeat([]byte{35, 37}, 10), Caps: core},
		{Nonce: bytes.Repeat([]byte{255}, 20), Caps: plugged},
		{Version: "\xff\n", Thread: 1<<32 - 1, Nonce: climbing(37, 20), Caps: 1<<32 - 1, Charset: 255, Status: 1<<16 - 1, Plugin: api.FastPlugin},
		{Version: strings.Repeat("v", 300), Nonce: nonce(), Caps: core | 0xffff, Status: 1 << 8},
		{Version: "x", Thread: 1 << 24, Nonce: nonce(), Caps: core | 0xfff70000, Charset: 1},
		{Version: "x", Thread: 1 << 8, Nonce: nonce(), Caps: full, Plugin: strings.Repeat("p", 260)},
	} {
		l = append(l, ofGreeting(g))
	}
	return l
}

func answers() []sample {
	l := []sample{ofAnswer(api.Answer{Caps: core}), ofAnswer(api.Answer{Caps: 1<<32 - 1}), ofAnswer(basicAnswer())}
	for _, c := range flagSets() {
		a := basicAnswer()
		a.Caps = c
		l = append(l, ofAnswer(onlyBy(a)))
		a = api.Answer{Caps: c, Most: 1<<32 - 1, Charset: 255, Response: climbing(0, 5)}
		l = append(l, ofAnswer(a))
		l = append(l, ofAnswer(onlyBy(api.Answer{Caps: c | 1<<27, Most: 1 << 16, User: "\xff\xfb", Schema: "\xfb", Plugin: "\xfc\x01", Attrs: make([]api.Attr, 3)})))
	}
	for _, n := range []int{0, 1, 2, 249, 250, 251, 252, 254, 255} {
		l = append(l, ofAnswer(api.Answer{Caps: core, User: "u", Response: climbing(0, n)}))
		l = append(l, ofAnswer(api.Answer{Caps: counted, User: "u", Response: climbing(0, n)}))
	}
	for _, n := range []int{1, 2, 63, 64} {
		l = append(l, ofAnswer(api.Answer{Caps: attred, Attrs: manyAttrs(n)}), ofAnswer(api.Answer{Caps: attred, Attrs: make([]api.Attr, n)}))
	}
	for _, n := range []int{246, 247, 248, 249, 250, 251, 252} {
		long := strings.Repeat("x", n)
		l = append(l, ofAnswer(api.Answer{Caps: attred, Attrs: []api.Attr{{Name: long, Value: ""}}}))
		l = append(l, ofAnswer(api.Answer{Caps: attred, Attrs: []api.Attr{{Name: "", Value: long}}}))
	}
	return l
}

func switches() []sample {
	var l []sample
	for _, s := range []api.Switch{
		basicSwitch(), {Nonce: nonce()}, {Plugin: api.NativePlugin, Nonce: nonce()}, {Plugin: "\xfe\x01", Nonce: bytes.Repeat([]byte{35, 37, 254, 255}, 5)},
	} {
		l = append(l, ofSwitch(s))
	}
	return l
}

func mores() []sample {
	var l []sample
	for _, more := range [][]byte{nil, {}, {0}, {1}, {api.MoreFast}, {api.MoreFull}, {255, 0, 1}, climbing(0, 256), climbing(9, 300)} {
		l = append(l, ofMore(more))
	}
	return l
}

func changes() []sample {
	l := []sample{ofChange(core, api.ChangeUser{}), ofChange(1<<32-1, api.ChangeUser{}), ofChange(full, basicChange())}
	for _, c := range flagSets() {
		a := basicAnswer()
		a.Caps = c
		l = append(l, ofChange(c, changeOf(onlyBy(a), 0x0203)))
		l = append(l, ofChange(c, api.ChangeUser{User: "u", Response: climbing(0, 9), Charset: 1<<16 - 1}))
		l = append(l, ofChange(c|1<<29, changeOf(onlyBy(api.Answer{Caps: c, User: "\xff\xfb", Schema: "\xfb", Plugin: "\xfc", Attrs: make([]api.Attr, 3)}), 255)))
	}
	for _, n := range []int{1, 250, 251, 252, 255} {
		l = append(l, ofChange(core, api.ChangeUser{User: "u", Response: climbing(0, n)}), ofChange(counted, api.ChangeUser{Response: climbing(0, n)}))
	}
	for _, n := range []int{1, 63, 64} {
		l = append(l, ofChange(attred, api.ChangeUser{Attrs: manyAttrs(n)}), ofChange(attred, api.ChangeUser{Attrs: make([]api.Attr, n)}))
	}
	return l
}

func samples() []sample {
	return joined(greetings(), answers(), switches(), mores(), changes())
}

func joined(lists ...[]sample) []sample {
	var l []sample
	for _, s := range lists {
		l = append(l, s...)
	}
	return l
}

// evened makes an empty list nil, as both are one and the same.
func evened(thing any) any {
	bytesOf := func(b []byte) []byte {
		if len(b) == 0 {
			return nil
		}
		return b
	}
	attrsOf := func(l []api.Attr) []api.Attr {
		if len(l) == 0 {
			return nil
		}
		return l
	}
	switch x := thing.(type) {
	case api.Greeting:
		x.Nonce = bytesOf(x.Nonce)
		return x
	case api.Answer:
		x.Response, x.Attrs = bytesOf(x.Response), attrsOf(x.Attrs)
		return x
	case api.Switch:
		x.Nonce = bytesOf(x.Nonce)
		return x
	case api.ChangeUser:
		x.Response, x.Attrs = bytesOf(x.Response), attrsOf(x.Attrs)
		return x
	case []byte:
		return bytesOf(x)
	}
	return thing
}

func same(a, b any) bool {
	return reflect.DeepEqual(evened(a), evened(b))
}

// isNothing tells whether all of a thing has its zero value.
func isNothing(thing any) bool {
	return reflect.ValueOf(evened(thing)).IsZero()
}

// brief shortens what is told of bytes in a failed test.
func brief(b []byte) string {
	if len(b) > 120 {
		return fmt.Sprintf("%v .. (%d bytes)", b[:120], len(b))
	}
	return fmt.Sprintf("%v (%d bytes)", b, len(b))
}

func wantRead(t *testing.T, name string, s sample, b []byte, want any) {
	t.Helper()
	if thing, e := s.read(b); e != api.OK || !same(thing, want) {
		t.Errorf("%s, %s: read of %s: %.200v, %v, want %.200v", s.name, name, brief(b), thing, e, want)
	}
}

func wantError(t *testing.T, name string, s sample, b []byte, want api.Errno) {
	t.Helper()
	if thing, e := s.read(b); e != want || !isNothing(thing) {
		t.Errorf("%s, %s: read of %s: %.200v, %v, want %v", s.name, name, brief(b), thing, e, want)
	}
}

// wantPlain holds a read against the plain words, and answers the error.
func wantPlain(t *testing.T, name string, s sample, b []byte) api.Errno {
	t.Helper()
	want, wantE := s.plain(b)
	thing, e := s.read(b)
	if e != wantE || !same(thing, want) {
		t.Errorf("%s, %s: read of %s: %.200v, %v, want %.200v, %v", s.name, name, brief(b), thing, e, want, wantE)
	}
	return e
}

func wantRefused(t *testing.T, name string, put func(b []byte) ([]byte, api.Errno)) {
	t.Helper()
	for _, b := range [][]byte{nil, {}, {1, 2, 3}} {
		if out, e := put(b); len(out) != 0 || e != api.ErrArg {
			t.Errorf("%s behind %v: %s, %v", name, b, brief(out), e)
		}
	}
}

// with is b with another byte at a place.
func with(b []byte, at int, x byte) []byte {
	l := bytes.Clone(b)
	l[at] = x
	return l
}

func drawer(seed int64) *rand.Rand {
	return rand.New(rand.NewSource(seed))
}
