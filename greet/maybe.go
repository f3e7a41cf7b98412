package greet

import (
	"bytes"
	"strings"

	"sluicegate/api"
	"sluicegate/scramble"
)

// core is what every packet's capabilities must have.
const core = api.CapProtocol41 | api.CapSecure

// lowerCaps are the capabilities that a greeting tells first; core is among them.
const lowerCaps api.Caps = 1<<16 - 1

func greetingMayBe(g api.Greeting) bool {
	return hasCore(g.Caps) && hasNoZero(g.Version) && scramble.Check(g.Nonce) == api.OK &&
		mayBeBy(g.Caps, api.CapPluginAuth, g.Plugin)
}

func answerMayBe(a api.Answer) bool {
	if !hasCore(a.Caps) || !hasNoZero(a.User) || len(a.Response) > mostResponse {
		return false
	}
	if !mayBeBy(a.Caps, api.CapConnectWithDB, a.Schema) || !mayBeBy(a.Caps, api.CapPluginAuth, a.Plugin) {
		return false
	}
	if a.Caps&api.CapConnectAttrs == 0 {
		return len(a.Attrs) == 0
	}
	return len(a.Attrs) <= api.MaxAttrs
}

func switchMayBe(s api.Switch) bool {
	return hasNoZero(s.Plugin) && scramble.Check(s.Nonce) == api.OK
}

func changeMayBe(c api.Caps, u api.ChangeUser) bool {
	return answerMayBe(api.Answer{
		Caps: c, User: u.User, Response: u.Response, Schema: u.Schema, Plugin: u.Plugin, Attrs: u.Attrs,
	})
}

func hasCore(c api.Caps) bool {
	return c&core == core
}

func hasNoZero(s string) bool {
	return strings.IndexByte(s, 0) < 0
}

// mayBeBy answers whether a text may be that is something only where a capability is there.
func mayBeBy(c, flag api.Caps, s string) bool {
	if c&flag == 0 {
		return s == ""
	}
	return hasNoZero(s)
}

// mayBePart answers whether a nonce may begin so: the rest that is put behind it is one that may be.
func mayBePart(part []byte) bool {
	nonce := bytes.Repeat([]byte{1}, api.MaxNonce)
	copy(nonce, part)
	return scramble.Check(nonce) == api.OK
}

// nonceSize is the byte by which a greeting tells how long its nonce is, with the 0 behind it.
func nonceSize(c api.Caps) uint64 {
	if c&api.CapPluginAuth == 0 {
		return 0
	}
	return api.MaxNonce + 1
}
