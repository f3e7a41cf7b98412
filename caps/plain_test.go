package caps_test

import (
	"fmt"
	"math/rand"
	"slices"
	"strings"

	"sluicegate/api"
)

// The chapter's names, as its words have them, from the bit 0 on.
const written = "long-password found-rows long-flag connect-with-db no-schema compress odbc local-files ignore-space protocol-41 " +
	"interactive ssl ignore-sigpipe transactions reserved secure multi-statement multi-results ps-multi-results plugin-auth " +
	"connect-attrs lenenc-auth expired session-track deprecate-eof"

const all = api.Caps(1<<32 - 1)

// What the chapter says in names: what is offered and needed, and what hangs on what.
var (
	offeredNames = []string{
		"long-password", "found-rows", "long-flag", "connect-with-db", "compress", "local-files", "ignore-space", "protocol-41",
		"interactive", "transactions", "reserved", "secure", "multi-statement", "multi-results", "ps-multi-results", "plugin-auth",
		"connect-attrs", "lenenc-auth", "session-track", "deprecate-eof",
	}
	neededNames = []string{"protocol-41", "secure", "plugin-auth", "transactions"}
	hangs       = [][2]string{
		{"connect-with-db", "protocol-41"}, {"compress", "protocol-41"}, {"local-files", "protocol-41"},
		{"multi-statement", "protocol-41"}, {"multi-results", "protocol-41"}, {"ps-multi-results", "protocol-41"},
		{"plugin-auth", "protocol-41"}, {"connect-attrs", "protocol-41"}, {"lenenc-auth", "protocol-41"},
		{"session-track", "protocol-41"}, {"deprecate-eof", "protocol-41"},
		{"connect-attrs", "plugin-auth"}, {"lenenc-auth", "plugin-auth"}, {"multi-statement", "multi-results"},
	}
)

// allNames is what each bit of capabilities is called.
var allNames = func() []string {
	l := strings.Fields(written)
	for bit := len(l); bit < 32; bit++ {
		l = append(l, fmt.Sprintf("bit-%d", bit))
	}
	return l
}()

func plainName(bit int) string {
	return allNames[bit]
}

// plainNames goes over all bits, from 0 on.
func plainNames(c api.Caps) []string {
	var l []string
	for bit := range 32 {
		if c>>bit%2 == 1 {
			l = append(l, plainName(bit))
		}
	}
	return l
}

// plainBit is the bit that is called so: -1 if there is none.
func plainBit(name string) int {
	return slices.Index(allNames, name)
}

// flags is the capabilities with these names, which must be some.
func flags(names ...string) api.Caps {
	var c api.Caps
	for _, name := range names {
		c |= 1 << plainBit(name)
	}
	return c
}

// plainOf goes on up to the first that is no name.
func plainOf(names []string) (api.Caps, api.Fault) {
	for at, name := range names {
		if plainBit(name) < 0 {
			return 0, api.Fault{Err: api.ErrArg, At: at}
		}
	}
	return flags(names...), api.Fault{}
}

// plainDone tells whether a bit is done, where both sides have these: it is there, and all is done that it hangs on.
func plainDone(both api.Caps, bit int) bool {
	if both>>bit%2 == 0 {
		return false
	}
	for _, h := range hangs {
		if h[0] == plainName(bit) && !plainDone(both, plainBit(h[1])) {
			return false
		}
	}
	return true
}

func plainBoth(server, client api.Caps) api.Caps {
	var c api.Caps
	for bit := range 32 {
		if plainDone(server&client, bit) {
			c |= 1 << bit
		}
	}
	return c
}

func plainCheck(c api.Caps) api.Errno {
	for _, name := range neededNames {
		if c&flags(name) == 0 {
			return api.ErrBad
		}
	}
	return api.OK
}

var statusNames = map[int]string{
	0: "in-trans", 1: "autocommit", 3: "more-results", 6: "cursor", 7: "last-row", 13: "in-trans-read", 14: "state-changed",
}

func plainStatus(s uint16) []string {
	var l []string
	for bit := range 16 {
		name, ok := statusNames[bit]
		if !ok {
			name = fmt.Sprintf("bit-%d", bit)
		}
		if s>>bit%2 == 1 {
			l = append(l, name)
		}
	}
	return l
}

// drawn is capabilities of many kinds: few bits, half of them, nearly all.
func drawn(n int) []api.Caps {
	r := rand.New(rand.NewSource(11))
	l := make([]api.Caps, n)
	for i := range l {
		x, y, z := r.Uint32(), r.Uint32(), r.Uint32()
		l[i] = api.Caps([]uint32{x & y & z, x & y, x, x | y, x | y | z}[i%5])
	}
	return l
}

// singles is each bit alone, and all the others.
func singles() []api.Caps {
	var l []api.Caps
	for bit := range 32 {
		l = append(l, 1<<bit, all&^(1<<bit))
	}
	return l
}
