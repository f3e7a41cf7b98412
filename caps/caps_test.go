package caps_test

import (
	"fmt"
	"math/bits"
	"math/rand"
	"slices"
	"strings"
	"sync"
	"testing"

	"sluicegate/api"
	"sluicegate/caps"
)

func wantCaps(t *testing.T, name string, got, want api.Caps) {
	t.Helper()
	if got != want {
		t.Errorf("%s: %#x %v, want %#x %v", name, got, plainNames(got), want, plainNames(want))
	}
}

// wantBoth asks both ways round.
func wantBoth(t *testing.T, server, client, want api.Caps) {
	t.Helper()
	for _, sides := range [][2]api.Caps{{server, client}, {client, server}} {
		if got := caps.Both(sides[0], sides[1]); got != want {
			t.Errorf("Both of %#x: %#x %v, want %#x %v", sides, got, plainNames(got), want, plainNames(want))
		}
	}
}

// wantPart tells whether what is done by fewer is done by those, too.
func wantPart(t *testing.T, fewer, of api.Caps, sides [2]api.Caps, lack api.Caps) {
	t.Helper()
	if fewer&^of != 0 {
		t.Errorf("Both of %#x without %#x on a side: more by %v", sides, lack, plainNames(fewer&^of))
	}
}

func wantNames(t *testing.T, name string, got []string, want ...string) {
	t.Helper()
	if !slices.Equal(got, want) {
		t.Errorf("%s: %q, want %q", name, got, want)
	}
}

func wantOf(t *testing.T, names []string, want api.Caps) {
	t.Helper()
	if c, f := caps.Of(names); c != want || f != (api.Fault{}) {
		t.Errorf("Of of %q: %#x, %v; want %#x", names, c, f, want)
	}
}

func wantNone(t *testing.T, names []string, at int) {
	t.Helper()
	if c, f := caps.Of(names); c != 0 || f != (api.Fault{Err: api.ErrArg, At: at}) {
		t.Errorf("Of of %q: %#x, %v; want ErrArg at %d", names, c, f, at)
	}
}

func TestExamples(t *testing.T) {
	wantCaps(t, "Offered twice", caps.Both(caps.Offered(), caps.Offered()), caps.Offered())
	wantCaps(t, "Offered, Compress", caps.Both(caps.Offered(), api.CapCompress), 0)
	wantNames(t, "Names of three", caps.Names(1|32|1<<30), "long-password", "compress", "bit-30")
	wantNames(t, "Names of nothing", caps.Names(0))
	wantOf(t, []string{"secure", "bit-25"}, 32768|1<<25)
	wantNone(t, []string{"Secure"}, 0)
	wantNone(t, []string{"bit-24"}, 0)
	if e := caps.Check(caps.Needed()); e != api.OK {
		t.Errorf("Check of Needed: %v", e)
	}
	if e := caps.Check(caps.Needed() &^ api.CapSecure); e != api.ErrBad {
		t.Errorf("Check without Secure: %v", e)
	}
	wantNames(t, "Status of three", caps.Status(2|16384|4), "autocommit", "bit-2", "state-changed")
}

// apiCaps is api's names in the chapter's order, from the bit 0 on.
func apiCaps() []api.Caps {
	return []api.Caps{
		api.CapLongPassword, api.CapFoundRows, api.CapLongFlag, api.CapConnectWithDB, api.CapNoSchema, api.CapCompress, api.CapODBC,
		api.CapLocalFiles, api.CapIgnoreSpace, api.CapProtocol41, api.CapInteractive, api.CapSSL, api.CapIgnoreSigpipe,
		api.CapTransactions, api.CapReserved, api.CapSecure, api.CapMultiStatement, api.CapMultiResults, api.CapPSMultiResults,
		api.CapPluginAuth, api.CapConnectAttrs, api.CapLenencAuth, api.CapExpired, api.CapSessionTrack, api.CapDeprecateEOF,
	}
}

func TestApisCaps(t *testing.T) {
	l := apiCaps()
	if len(l) != 25 || len(strings.Fields(written)) != 25 {
		t.Fatalf("%d flags, %d names, want 25", len(l), len(strings.Fields(written)))
	}
	for bit, c := range l {
		wantCaps(t, fmt.Sprint("api's bit ", bit), c, 1<<bit)
		wantNames(t, fmt.Sprint("Names of api's bit ", bit), caps.Names(c), plainName(bit))
		wantOf(t, []string{plainName(bit)}, c)
	}
}

func TestApisStatus(t *testing.T) {
	rows := []struct {
		flag uint16
		bit  int
		name string
	}{
		{api.StatusInTrans, 0, "in-trans"}, {api.StatusAutocommit, 1, "autocommit"}, {api.StatusMoreResults, 3, "more-results"},
		{api.StatusCursor, 6, "cursor"}, {api.StatusLastRow, 7, "last-row"}, {api.StatusInTransRead, 13, "in-trans-read"},
		{api.StatusStateChanged, 14, "state-changed"},
	}
	for _, r := range rows {
		if r.flag != 1<<r.bit {
			t.Errorf("%s: %d, want bit %d", r.name, r.flag, r.bit)
		}
		wantNames(t, "Status of api's flag", caps.Status(r.flag), r.name)
	}
}

func TestP11_1Offered(t *testing.T) {
	for bit := range 32 {
		want := slices.Contains(offeredNames, plainName(bit))
		if got := caps.Offered()>>bit&1 == 1; got != want {
			t.Errorf("Offered, %s: %v, want %v", plainName(bit), got, want)
		}
	}
	withheld := api.CapNoSchema | api.CapODBC | api.CapSSL | api.CapIgnoreSigpipe | api.CapExpired
	wantCaps(t, "Offered", caps.Offered(), (1<<25-1)&^withheld)
	if n := bits.OnesCount32(uint32(caps.Offered())); n != 20 {
		t.Errorf("Offered are %d, want 20", n)
	}
}

func TestP11_1Needed(t *testing.T) {
	for bit := range 32 {
		want := slices.Contains(neededNames, plainName(bit))
		if got := caps.Needed()>>bit&1 == 1; got != want {
			t.Errorf("Needed, %s: %v, want %v", plainName(bit), got, want)
		}
	}
	wantCaps(t, "Needed", caps.Needed(), api.CapProtocol41|api.CapSecure|api.CapPluginAuth|api.CapTransactions)
	wantCaps(t, "Needed that are not offered", caps.Needed()&^caps.Offered(), 0)
}

func TestP11_1BothOfWholes(t *testing.T) {
	for _, c := range []api.Caps{0, caps.Offered(), caps.Needed(), all} {
		wantBoth(t, 0, c, 0)
		wantBoth(t, all, c, c)
		wantBoth(t, c, c, c)
	}
	wantBoth(t, caps.Offered(), caps.Needed(), caps.Needed())
}

func TestP11_1BothWithOneBit(t *testing.T) {
	for _, with := range []api.Caps{0, caps.Offered(), caps.Needed(), all} {
		for _, c := range singles() {
			wantBoth(t, with, c, plainBoth(with, c))
			wantBoth(t, with&c, with, plainBoth(with, c))
			wantBoth(t, c, c, plainBoth(c, c))
		}
	}
}

// A capability that hangs on nothing is done wherever both have it.
func TestP11_1BothOfTheFree(t *testing.T) {
	for bit := range 32 {
		flag := api.Caps(1) << bit
		wantBoth(t, all&^flag, flag, 0)
		if slices.ContainsFunc(hangs, func(h [2]string) bool { return h[0] == plainName(bit) }) {
			continue
		}
		wantBoth(t, all, flag, flag)
		wantBoth(t, flag, flag, flag)
	}
}

// under is all that a name hangs on, by any way.
func under(name string) api.Caps {
	var c api.Caps
	for _, h := range hangs {
		if h[0] == name {
			c |= flags(h[1]) | under(h[1])
		}
	}
	return c
}

func TestP11_1BothOfWhatHangs(t *testing.T) {
	for _, h := range hangs {
		flag, on, needs := flags(h[0]), flags(h[1]), under(h[0])
		whole := flag | needs
		wantBoth(t, flag, flag, 0)
		wantBoth(t, all, flag, 0)
		wantBoth(t, all, whole, whole)
		wantBoth(t, whole, whole, whole)
		// Without what it hangs on neither it is done, nor anything else that hangs there.
		wantBoth(t, whole, whole&^on, plainBoth(whole&^on, all))
		wantBoth(t, all, whole&^on, plainBoth(whole&^on, all))
		wantBoth(t, all&^on, whole, plainBoth(whole&^on, all))
		for _, c := range []api.Caps{caps.Both(all&^on, whole), caps.Both(whole, all&^on), caps.Both(all&^on, all), caps.Both(all, all&^on)} {
			wantCaps(t, h[0]+" without "+h[1], c&(flag|on), 0)
		}
		wantBoth(t, whole, needs, needs)
	}
}

func TestP11_1BothWritten(t *testing.T) {
	rows := []struct{ server, client, want api.Caps }{
		{all, api.CapCompress | api.CapProtocol41, api.CapCompress | api.CapProtocol41},
		{all, api.CapCompress | api.CapPluginAuth, 0},
		{all, api.CapConnectAttrs | api.CapProtocol41, api.CapProtocol41},
		{all, api.CapLenencAuth | api.CapProtocol41, api.CapProtocol41},
		{all, api.CapMultiStatement | api.CapProtocol41, api.CapProtocol41},
		{all, api.CapMultiStatement | api.CapProtocol41 | api.CapPSMultiResults, api.CapProtocol41 | api.CapPSMultiResults},
		{all, api.CapMultiResults | api.CapProtocol41, api.CapMultiResults | api.CapProtocol41},
		{all &^ api.CapProtocol41, caps.Offered(), api.CapLongPassword | api.CapFoundRows | api.CapLongFlag | api.CapIgnoreSpace |
			api.CapInteractive | api.CapTransactions | api.CapReserved | api.CapSecure},
		{all &^ api.CapProtocol41, all, all &^ (flags("connect-with-db", "compress", "local-files", "protocol-41", "multi-statement",
			"multi-results", "ps-multi-results", "plugin-auth", "connect-attrs", "lenenc-auth", "session-track", "deprecate-eof"))},
		{all &^ api.CapPluginAuth, all, all &^ (api.CapPluginAuth | api.CapConnectAttrs | api.CapLenencAuth)},
		{all &^ api.CapMultiResults, all, all &^ (api.CapMultiResults | api.CapMultiStatement)},
		{all &^ api.CapMultiStatement, all, all &^ api.CapMultiStatement},
		{all &^ api.CapPluginAuth, all &^ api.CapMultiResults, all &^ (api.CapPluginAuth | api.CapConnectAttrs | api.CapLenencAuth |
			api.CapMultiResults | api.CapMultiStatement)},
	}
	for _, r := range rows {
		wantBoth(t, r.server, r.client, r.want)
	}
}

// What hangs on one that itself hangs on Protocol41 goes with either of them, whichever side has not got it.
func TestP11_1BothOfChains(t *testing.T) {
	chains := []struct{ top, middle api.Caps }{
		{api.CapConnectAttrs, api.CapPluginAuth},
		{api.CapLenencAuth, api.CapPluginAuth},
		{api.CapMultiStatement, api.CapMultiResults},
	}
	for _, c := range chains {
		whole := c.top | c.middle | api.CapProtocol41
		wantBoth(t, whole, whole, whole)
		wantBoth(t, whole, whole&^c.middle, api.CapProtocol41)
		wantBoth(t, whole, whole&^api.CapProtocol41, 0)
		wantBoth(t, whole&^c.middle, whole&^api.CapProtocol41, 0)
		wantBoth(t, whole, whole&^c.top, c.middle|api.CapProtocol41)
		wantBoth(t, whole&^c.middle, whole&^c.middle, api.CapProtocol41)
		wantBoth(t, whole&^api.CapProtocol41, whole&^api.CapProtocol41, 0)
		wantBoth(t, c.top|api.CapSecure, all, api.CapSecure)
	}
}

func TestP11_1BothAbove(t *testing.T) {
	for bit := 25; bit < 32; bit++ {
		flag := api.Caps(1) << bit
		wantBoth(t, flag, flag, flag)
		wantBoth(t, flag, all, flag)
		wantBoth(t, flag, 0, 0)
		wantBoth(t, flag, all&^flag, 0)
		wantBoth(t, flag|caps.Offered(), caps.Offered(), caps.Offered())
		wantBoth(t, flag|caps.Offered(), flag|api.CapCompress, flag)
	}
}

// spread lays the bits of n at the places of all capabilities that hang on one, or on which one hangs.
func spread(n int) api.Caps {
	var c api.Caps
	for _, name := range hangingNames() {
		if n&1 == 1 {
			c |= flags(name)
		}
		n >>= 1
	}
	return c
}

func hangingNames() []string {
	var l []string
	for _, h := range hangs {
		l = append(l, h[0], h[1])
	}
	slices.Sort(l)
	return slices.Compact(l)
}

func TestP11_1BothOfAllThatHang(t *testing.T) {
	n := 1 << len(hangingNames())
	has, done := make([]api.Caps, n), make([]api.Caps, n)
	for i := range n {
		has[i] = spread(i)
		done[i] = plainBoth(has[i], has[i])
	}
	for i := range n {
		for j := range n {
			if got := caps.Both(has[i], has[j]); got != done[i&j] {
				t.Fatalf("Both of %#x, %#x: %#x, want %#x", has[i], has[j], got, done[i&j])
			}
		}
	}
}

func TestP11_1BothDrawn(t *testing.T) {
	l := drawn(20001)
	for i := range len(l) - 1 {
		wantBoth(t, l[i], l[i+1], plainBoth(l[i], l[i+1]))
		wantBoth(t, l[i], l[i], plainBoth(l[i], l[i]))
	}
}

func wantCheck(t *testing.T, c api.Caps, want api.Errno) {
	t.Helper()
	if e := caps.Check(c); e != want {
		t.Errorf("Check of %#x %v: %v, want %v", c, plainNames(c), e, want)
	}
}

func TestP11_1Check(t *testing.T) {
	wantCheck(t, caps.Needed(), api.OK)
	wantCheck(t, caps.Offered(), api.OK)
	wantCheck(t, all, api.OK)
	wantCheck(t, 0, api.ErrBad)
	wantCheck(t, all&^caps.Needed(), api.ErrBad)
	for _, c := range []api.Caps{api.CapProtocol41, api.CapSecure, api.CapPluginAuth, api.CapTransactions} {
		wantCheck(t, c, api.ErrBad)
		for _, whole := range []api.Caps{caps.Needed(), caps.Offered(), all} {
			wantCheck(t, whole&^c, api.ErrBad)
		}
	}
	for _, c := range singles() {
		wantCheck(t, c, plainCheck(c))
		wantCheck(t, c|caps.Needed(), api.OK)
		wantCheck(t, c&caps.Needed(), plainCheck(c))
	}
	for _, c := range drawn(5000) {
		wantCheck(t, c, plainCheck(c))
	}
}

func TestP11_2NamesOfOne(t *testing.T) {
	for bit := range 32 {
		wantNames(t, fmt.Sprint("Names of bit ", bit), caps.Names(1<<bit), plainName(bit))
	}
	wantNames(t, "Names of bit 24", caps.Names(1<<24), "deprecate-eof")
	wantNames(t, "Names of bit 25", caps.Names(1<<25), "bit-25")
	wantNames(t, "Names of bit 31", caps.Names(1<<31), "bit-31")
}

func TestP11_2NamesOfMany(t *testing.T) {
	above := []string{"bit-25", "bit-26", "bit-27", "bit-28", "bit-29", "bit-30", "bit-31"}
	wantNames(t, "Names of nothing", caps.Names(0))
	wantNames(t, "Names of all", caps.Names(all), append(strings.Fields(written), above...)...)
	wantNames(t, "Names of those that have one", caps.Names(1<<25-1), strings.Fields(written)...)
	wantNames(t, "Names of the others", caps.Names(all&^(1<<25-1)), above...)
	wantNames(t, "Names of Offered", caps.Names(caps.Offered()), offeredNames...)
	wantNames(t, "Names of Needed", caps.Names(caps.Needed()), "protocol-41", "transactions", "secure", "plugin-auth")
}

func TestP11_2NamesRise(t *testing.T) {
	for low := range 32 {
		for high := low + 1; high < 32; high++ {
			wantNames(t, fmt.Sprint("Names of bits ", low, " and ", high), caps.Names(1<<low|1<<high), plainName(low), plainName(high))
		}
	}
	for _, c := range slices.Concat(singles(), drawn(5000)) {
		wantNames(t, fmt.Sprintf("Names of %#x", c), caps.Names(c), plainNames(c)...)
	}
}

func TestP11_2OfNames(t *testing.T) {
	wantOf(t, nil, 0)
	wantOf(t, []string{}, 0)
	for bit := range 32 {
		wantOf(t, []string{plainName(bit)}, 1<<bit)
	}
	for bit := 25; bit < 32; bit++ {
		wantOf(t, []string{fmt.Sprintf("bit-%d", bit)}, 1<<bit)
	}
	wantOf(t, offeredNames, caps.Offered())
	wantOf(t, neededNames, caps.Needed())
}

func TestP11_2OfInAnyOrder(t *testing.T) {
	wantOf(t, []string{"secure", "secure"}, api.CapSecure)
	wantOf(t, []string{"bit-31", "bit-31", "bit-31"}, 1<<31)
	wantOf(t, []string{"deprecate-eof", "long-password"}, api.CapDeprecateEOF|api.CapLongPassword)
	wantOf(t, []string{"bit-30", "compress", "long-password", "compress", "bit-30"}, 1|32|1<<30)
	names := plainNames(all)
	slices.Reverse(names)
	wantOf(t, names, all)
	wantOf(t, append(names, names...), all)
	r := rand.New(rand.NewSource(2))
	for _, c := range drawn(2000) {
		names := append(plainNames(c), plainNames(c&0x5555)...)
		r.Shuffle(len(names), func(i, j int) { names[i], names[j] = names[j], names[i] })
		wantOf(t, names, c)
	}
}

// wrongNames are none: the status flags' own, too, and numbers other than two digits from 25 to 31.
func wrongNames() []string {
	l := []string{
		"", " ", "\x00", "-", "bit", "bit-", "bit--", "bit-2", "bit-3", "bit-2x", "bit-x5", "bit-2 5", "bit-025", "bit-0025", "bit-25 ",
		" bit-25", "bit- 25", "bit-+25", "bit--25", "bit-25.0", "bit-250", "bit-1", "bit-0x19", "bit-25\x00", "bit-２５", "bit-2\n", "bit25",
		"bit_25", "25", "31", "Bit-25", "BIT-25", "bit-25,bit-26", "bit-4294967321", "bit-18446744073709551641", "bit-281", "bit-3l",
		"Secure", "SECURE", "secure ", " secure", "secure\x00", "secur", "ecure", "ssecure", "secure-", "Long-Password", "long_password",
		"longpassword", "long password", "LongPassword", "CapSecure", "protocol41", "protocol-40", "protocol-4", "protocol-411", "Odbc",
		"ODBC", "SSL", "deprecate-EOF", "deprecateeof", "long", "password", "multi", "secure,ssl", "secure ssl",
		"in-trans", "autocommit", "more-results", "cursor", "last-row", "in-trans-read", "state-changed", "none", "\xff\xfe", "sécure",
		strings.Repeat("secure", 10000), "bit-" + strings.Repeat("0", 10000) + "25",
	}
	for n := range 100 {
		l = append(l, fmt.Sprintf("bit-%d", n), fmt.Sprintf("bit-%02d", n), fmt.Sprintf("bit-%03d", n), fmt.Sprint(n))
	}
	return slices.DeleteFunc(l, func(name string) bool {
		return len(name) == 6 && name >= "bit-25" && name <= "bit-29" || name == "bit-30" || name == "bit-31"
	})
}

func TestP11_2OfNoNames(t *testing.T) {
	for _, name := range []string{"bit-24", "bit-32", "bit-0", "bit-9", "bit-00", "bit-09", "bit-33", "bit-99"} {
		if !slices.Contains(wrongNames(), name) {
			t.Errorf("%s is not among the wrong names", name)
		}
	}
	for _, name := range wrongNames() {
		wantNone(t, []string{name}, 0)
		wantNone(t, []string{name, "secure"}, 0)
		wantNone(t, []string{"secure", name}, 1)
		wantNone(t, []string{"bit-25", "ssl", name, "odbc", "bit-31"}, 2)
		wantNone(t, append(plainNames(all), name), 32)
	}
}

// Each text that differs in one byte from a name, or has one byte less or more, is read as the chapter says.
func TestP11_2OfNearNames(t *testing.T) {
	for _, name := range plainNames(all) {
		for at := range len(name) + 1 {
			for x := range 256 {
				near := []string{name[:at] + string([]byte{byte(x)}) + name[at:]}
				if at < len(name) {
					near = append(near, name[:at]+string([]byte{byte(x)})+name[at+1:], name[:at]+name[at+1:])
				}
				for _, s := range near {
					c, f := caps.Of([]string{s})
					wantC, wantF := plainOf([]string{s})
					if c != wantC || f != wantF {
						t.Errorf("Of of %q: %#x, %v; want %#x, %v", s, c, f, wantC, wantF)
					}
				}
			}
		}
	}
}

func TestP11_2OfTellsTheFirst(t *testing.T) {
	wantNone(t, []string{"Secure", "bit-24", ""}, 0)
	wantNone(t, []string{"secure", "bit-24", "ssl", "Secure"}, 1)
	wantNone(t, []string{"secure", "secure", "secure", "", "", ""}, 3)
	names := plainNames(all)
	for first := range names {
		for second := first; second < len(names); second++ {
			l := slices.Clone(names)
			l[first], l[second] = "bit-24", "bit-32"
			wantNone(t, l, first)
		}
	}
	wantNone(t, append(slices.Repeat([]string{"bit-31"}, 100000), "bit-32", "secure"), 100000)
}

func TestP11_2OfDrawn(t *testing.T) {
	r := rand.New(rand.NewSource(3))
	pick := append(slices.Repeat(plainNames(all), 20), wrongNames()...)
	for range 2000 {
		names := make([]string, r.Intn(8))
		for i := range names {
			names[i] = pick[r.Intn(len(pick))]
		}
		c, f := caps.Of(names)
		wantC, wantF := plainOf(names)
		if c != wantC || f != wantF {
			t.Errorf("Of of %q: %#x, %v; want %#x, %v", names, c, f, wantC, wantF)
		}
	}
}

func TestP11_3Written(t *testing.T) {
	wantNames(t, "Status of 0", caps.Status(0))
	wantNames(t, "Status of all", caps.Status(65535), "in-trans", "autocommit", "bit-2", "more-results", "bit-4", "bit-5", "cursor", "last-row",
		"bit-8", "bit-9", "bit-10", "bit-11", "bit-12", "in-trans-read", "state-changed", "bit-15")
	wantNames(t, "Status of bits 9 and 10", caps.Status(1<<10|1<<9), "bit-9", "bit-10")
	wantNames(t, "Status of bits 13 to 15", caps.Status(7<<13), "in-trans-read", "state-changed", "bit-15")
	for bit, name := range []string{"in-trans", "autocommit", "bit-2", "more-results", "bit-4", "bit-5", "cursor", "last-row", "bit-8",
		"bit-9", "bit-10", "bit-11", "bit-12", "in-trans-read", "state-changed", "bit-15"} {
		wantNames(t, fmt.Sprint("Status of bit ", bit), caps.Status(1<<bit), name)
	}
}

func TestP11_3Each(t *testing.T) {
	for s := range 1 << 16 {
		if got, want := caps.Status(uint16(s)), plainStatus(uint16(s)); !slices.Equal(got, want) {
			t.Errorf("Status of %#x: %q, want %q", s, got, want)
		}
	}
}

// pairsOf is many pairs of sides, those with edges among them.
func pairsOf(n int) [][2]api.Caps {
	var l [][2]api.Caps
	for _, c := range singles() {
		for _, d := range []api.Caps{0, all, caps.Offered(), caps.Needed(), c} {
			l = append(l, [2]api.Caps{c, d}, [2]api.Caps{c | caps.Needed(), d})
		}
	}
	sides := drawn(n + 1)
	for i := range n {
		l = append(l, [2]api.Caps{sides[i], sides[i+1]})
	}
	return l
}

func TestP11_4PartOfBoth(t *testing.T) {
	for _, p := range pairsOf(5000) {
		done := caps.Both(p[0], p[1])
		wantPart(t, done, p[0], p, 0)
		wantPart(t, done, p[1], p, 0)
		wantBoth(t, p[1], p[0], done)
	}
}

func TestP11_4DoneWithItself(t *testing.T) {
	for _, p := range pairsOf(5000) {
		done := caps.Both(p[0], p[1])
		wantBoth(t, done, done, done)
		wantBoth(t, done, all, done)
		wantBoth(t, done, p[0], done)
		wantBoth(t, done, p[1], done)
	}
}

func TestP11_4FewerAreNotMore(t *testing.T) {
	lacks := drawn(30)
	for bit := range 32 {
		lacks = append(lacks, 1<<bit)
	}
	for _, p := range pairsOf(500) {
		done := caps.Both(p[0], p[1])
		for _, lack := range lacks {
			wantPart(t, caps.Both(p[0]&^lack, p[1]), done, p, lack)
			wantPart(t, caps.Both(p[0], p[1]&^lack), done, p, lack)
			wantPart(t, caps.Both(p[0]&^lack, p[1]&^lack), done, p, lack)
		}
	}
}

func TestP11_4OfOfNames(t *testing.T) {
	for n := range 1 << 16 {
		for _, c := range []api.Caps{api.Caps(n), api.Caps(n) << 16} {
			wantOf(t, caps.Names(c), c)
		}
	}
	for _, c := range slices.Concat([]api.Caps{0, all, caps.Offered(), caps.Needed()}, singles(), drawn(5000)) {
		wantOf(t, caps.Names(c), c)
	}
}

func TestWhatIsHandedInStays(t *testing.T) {
	for _, last := range []string{"bit-25", "bit-24"} {
		room := []string{"secure", last, "ssl", "Secure", "", "odbc"}
		before := slices.Clone(room)
		caps.Of(room[:2])
		caps.Of(room[1:3])
		wantNames(t, "what was handed in", room, before...)
	}
}

func TestRoomIsNotRead(t *testing.T) {
	room := []string{"secure", "bit-25", "ssl", "bit-24"}
	wantOf(t, room[:0], 0)
	wantOf(t, room[:2], api.CapSecure|1<<25)
	wantOf(t, room[:3], api.CapSecure|1<<25|api.CapSSL)
	wantNone(t, room, 3)
}

func TestNothingIsKept(t *testing.T) {
	room := []string{"secure", "bit-25"}
	wantOf(t, room, api.CapSecure|1<<25)
	room[0], room[1] = "ssl", "bit-31"
	wantOf(t, room, api.CapSSL|1<<31)
	room[0] = "Secure"
	wantNone(t, room, 0)
	wantOf(t, []string{"odbc"}, api.CapODBC)
	wantOf(t, nil, 0)
}

// spoil writes over a list and its spare room.
func spoil(l []string) {
	l = l[:cap(l)]
	for i := range l {
		l[i] = "spoilt"
	}
}

func TestAnswersAreNew(t *testing.T) {
	for _, c := range slices.Concat([]api.Caps{all, caps.Offered(), 7, 0}, singles()) {
		first, second := caps.Names(c), caps.Names(c)
		status, again := caps.Status(uint16(c)), caps.Status(uint16(c))
		spoil(first)
		spoil(status)
		wantNames(t, "Names of before", second, plainNames(c)...)
		wantNames(t, "Names of later", caps.Names(c), plainNames(c)...)
		wantNames(t, "Status of before", again, plainStatus(uint16(c))...)
		wantNames(t, "Status of later", caps.Status(uint16(c)), plainStatus(uint16(c))...)
		wantOf(t, second, c)
	}
	wantNames(t, "Names of all", caps.Names(all), plainNames(all)...)
	wantNone(t, []string{"spoilt"}, 0)
}

// What is answered hangs on nothing that another call does at the same time.
func TestManyAtOnce(t *testing.T) {
	var group sync.WaitGroup
	for _, c := range drawn(16) {
		group.Go(func() {
			for range 200 {
				l := caps.Names(c)
				wantOf(t, l, c)
				wantNames(t, "Names", l, plainNames(c)...)
				wantNames(t, "Status", caps.Status(uint16(c)), plainStatus(uint16(c))...)
				wantBoth(t, c, all, plainBoth(c, all))
				spoil(l)
			}
		})
	}
	group.Wait()
}
