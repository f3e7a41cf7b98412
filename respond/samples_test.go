package respond_test

import (
	"bytes"
	"fmt"
	"math/rand"
	"slices"

	"sluicegate/api"
)

// Capabilities: those that are needed, and what may come to them.
const (
	needed  = api.CapProtocol41 | api.CapSecure | api.CapPluginAuth | api.CapTransactions
	noEofs  = api.CapDeprecateEOF
	files   = api.CapLocalFiles
	tracks  = api.CapSessionTrack
	more    = api.StatusMoreResults
	cursor  = api.StatusCursor
	changed = api.StatusStateChanged
)

// allCaps are the needed ones with each choice of those by which answers differ.
func allCaps() []api.Caps {
	var l []api.Caps
	for i := range 8 {
		c := needed
		for k, more := range list(noEofs, files, tracks) {
			if i>>k&1 == 1 {
				c |= more
			}
		}
		l = append(l, c)
	}
	return l
}

// list is a list that is written out.
func list[T any](l ...T) []T {
	return l
}

// packets is a list of packets that is written out.
func packets(l ...[]byte) [][]byte {
	return l
}

func join(parts ...[]byte) []byte {
	return slices.Concat(parts...)
}

func two(x uint16) []byte {
	return []byte{byte(x), byte(x >> 8)}
}

// ok is an OK, in bytes that all capabilities read, if nothing has changed.
func ok(status uint16) []byte {
	return join([]byte{0, 0, 0}, two(status), []byte{0, 0})
}

// last is an OK that ends rows.
func last(status uint16) []byte {
	return join([]byte{254, 0, 0}, two(status), []byte{0, 0})
}

func eof(status uint16) []byte {
	return join([]byte{254, 0, 0}, two(status))
}

func refusal() []byte {
	return []byte("\xff\x28\x04#42000no")
}

func prepared(columns, params uint16) []byte {
	return join([]byte{0, 9, 0, 0, 0}, two(columns), two(params), []byte{0, 1, 0})
}

func file() []byte {
	return []byte{251, 'f'}
}

func count(n byte) []byte {
	return []byte{n}
}

// counted is a text with how many bytes it has, of fewer than 251.
func counted(s string) []byte {
	return join([]byte{byte(len(s))}, []byte(s))
}

// described is a column's bytes.
func described(c api.Column) []byte {
	b := counted("def")
	for _, s := range list(c.Schema, c.Table, c.OrgTable, c.Name, c.OrgName) {
		b = append(b, counted(s)...)
	}
	b = join(b, []byte{12}, two(c.Charset), two(uint16(c.Length)), two(uint16(c.Length>>16)))
	return join(b, []byte{c.Type}, two(c.Flags), []byte{c.Decimals, 0, 0})
}

func named(name string, kind byte) api.Column {
	return api.Column{Name: name, Type: kind}
}

// wholeColumn is a column in which nothing is zero.
func wholeColumn() api.Column {
	return api.Column{Schema: "schema", Table: "table", OrgTable: "org table", Name: "name", OrgName: "org name", Charset: 45, Length: 70000, Type: api.TypeTiny, Flags: api.FlagUnsigned | 1, Decimals: 3}
}

// columnsOf are columns by their names, of texts.
func columnsOf(names ...string) []api.Column {
	var l []api.Column
	for _, s := range names {
		l = append(l, named(s, api.TypeVarString))
	}
	return l
}

// describedAll are the packets of columns.
func describedAll(l []api.Column) [][]byte {
	var out [][]byte
	for _, c := range l {
		out = append(out, described(c))
	}
	return out
}

func of(kind byte) api.Command {
	return api.Command{Kind: kind}
}

func query() api.Command {
	return api.Command{Kind: api.ComQuery, Text: "x"}
}

func execute(flags byte) api.Command {
	return api.Command{Kind: api.ComExecute, Stmt: 7, Flags: flags, Data: []byte{1}}
}

func fetch() api.Command {
	return api.Command{Kind: api.ComFetch, Stmt: 7, Count: 3}
}

// commands are one of each kind, and an execute with a cursor, but for a change of user.
func commands() []api.Command {
	l := list(execute(1))
	for kind := range 256 {
		if byte(kind) != api.ComChangeUser {
			l = append(l, of(byte(kind)))
		}
	}
	return l
}

// cases are one command for each way to be answered.
func cases() []api.Command {
	return list(of(api.ComClose), of(api.ComCreateDB), of(api.ComPing), of(api.ComSetOption), of(api.ComStatistics),
		query(), execute(0), execute(1), of(api.ComPrepare), fetch())
}

func kindName(cmd api.Command) string {
	return fmt.Sprintf("%d (flags %d)", cmd.Kind, cmd.Flags)
}

// brief is a packet, or packets, as a test tells them, cut where they are long.
func brief(x any) string {
	s := fmt.Sprint(x)
	if len(s) > 600 {
		return fmt.Sprintf("%s.. (%d)", s[:600], len(s))
	}
	return s
}

// alphabet are packets of which answers are made: each that may come anywhere, and such as are near to it.
func alphabet() [][]byte {
	return packets(
		nil, []byte{0}, []byte{0, 0}, []byte{254}, []byte{255}, []byte{251}, []byte{'s'},
		ok(2), ok(2|more), last(2), last(2|more), last(2|cursor), bytes.TrimSuffix(ok(2), []byte{0}),
		refusal(), []byte("\xff\x28\x04x42000no"),
		eof(2), eof(2|more), eof(2|cursor), eof(2|cursor|more), append(eof(2), 0), eof(2)[:4],
		file(), count(1), count(2), []byte{252, 1, 0},
		described(named("a", api.TypeVarString)), described(named("b", api.TypeTiny)), described(named("c", 14)),
		counted("7"), []byte{251}, join(counted("7"), []byte{251}), // rows of one text, of Null, of both
		[]byte{0, 0, 1, '7'}, []byte{0, 0, 200}, []byte{0, 4}, []byte{0, 4, 5}, []byte{0, 12}, []byte{0, 0, 1, '7', 5}, // binary rows
		prepared(0, 0), prepared(1, 0), prepared(0, 1), prepared(1, 1), prepared(2, 2), append(prepared(1, 1), 0),
	)
}

// answer is one as a machine tells it: its packets, what kind of part each is, and the columns of what is fetched.
type answer struct {
	packets [][]byte
	kinds   []int
	cols    []api.Column
}

func (a *answer) tell(kind int, l ...[]byte) {
	for _, b := range l {
		a.packets, a.kinds = append(a.packets, b), append(a.kinds, kind)
	}
}

// end tells what stands behind columns, if there is something, or behind rows.
func (a *answer) end(c api.Caps, rows bool, status uint16) {
	kind := api.PartEof
	if rows {
		kind = api.PartEnd
	}
	switch {
	case c&noEofs == 0:
		a.tell(kind, eof(status))
	case rows:
		a.tell(kind, last(status))
	}
}

// drawAnswer draws an answer by what chapter 24 says that commands are answered.
func drawAnswer(random *rand.Rand, c api.Caps, cmd api.Command) answer {
	var a answer
	refused := random.Intn(4) == 0
	switch cmd.Kind {
	case api.ComQuit, api.ComLongData, api.ComClose:
		return a
	case api.ComInitDB, api.ComPing, api.ComStmtReset, api.ComReset, api.ComProcessKill:
		if !refused {
			a.tell(api.PartOk, drawOk(random, c, 0))
			return a
		}
	case api.ComSetOption:
		if !refused {
			a.setOption(c)
			return a
		}
	case api.ComStatistics:
		a.tell(api.PartText, []byte("s123"))
		return a
	case api.ComQuery, api.ComExecute:
		for random.Intn(2) == 0 {
			a.tellResult(random, c, cmd, more)
		}
		if !refused {
			a.tellResult(random, c, cmd, 0)
			return a
		}
	case api.ComPrepare:
		if !refused {
			a.tellPrepared(random, c)
			return a
		}
	case api.ComFetch:
		a.cols = drawColumns(random)
		if !refused {
			a.tellRows(random, a.cols, true)
			a.end(c, true, 2|cursor|api.StatusLastRow*uint16(random.Intn(2)))
			return a
		}
	}
	a.tell(api.PartErr, refusal())
	return a
}

func (a *answer) setOption(c api.Caps) {
	if c&noEofs != 0 {
		a.tell(api.PartOk, ok(2))
		return
	}
	a.tell(api.PartEof, eof(2))
}

// drawOk is an OK, of which a Track tells that a variable has changed, or without.
func drawOk(random *rand.Rand, c api.Caps, status uint16) []byte {
	status |= 2 + uint16(random.Intn(2))
	b := join([]byte{0, byte(random.Intn(4)), 0}, two(status), []byte{0, 0})
	switch {
	case c&tracks == 0:
		return b
	case random.Intn(2) == 0:
		return append(b, 0)
	}
	return join([]byte{0, 0, 0}, two(status|changed), []byte{0, 0, 0}, counted("\x00\x04\x01a\x011"))
}

func drawColumns(random *rand.Rand) []api.Column {
	var l []api.Column
	for i := range random.Intn(3) + 1 {
		kind := list(api.TypeLongLong, api.TypeVarString)[random.Intn(2)]
		name := fmt.Sprint("c", i+1)
		l = append(l, api.Column{Name: name, OrgName: name, Charset: 45, Length: 64, Type: kind})
	}
	return l
}

// tellResult draws a result, perhaps one that asks for a file.
func (a *answer) tellResult(random *rand.Rand, c api.Caps, cmd api.Command, status uint16) {
	way := random.Intn(3)
	if way == 1 && c&files != 0 && cmd.Kind == api.ComQuery {
		a.tell(api.PartFile, file())
		way = 0
	}
	if way == 0 {
		a.tell(api.PartOk, drawOk(random, c, status))
		return
	}
	cols := drawColumns(random)
	a.tell(api.PartCount, count(byte(len(cols))))
	a.tell(api.PartColumn, describedAll(cols)...)
	if cmd.Flags == 1 && status == 0 {
		a.end(c, c&noEofs != 0, 2|cursor)
		return
	}
	a.end(c, false, 2|status)
	a.tellRows(random, cols, cmd.Kind == api.ComExecute)
	a.end(c, true, 2|status)
}

// tellPrepared draws what was prepared, with parameters, columns, both, or none.
func (a *answer) tellPrepared(random *rand.Rand, c api.Caps) {
	params, columns := random.Intn(3), random.Intn(4)
	a.tell(api.PartPrepared, prepared(uint16(columns), uint16(params)))
	for _, n := range list(params, columns) {
		for range n {
			a.tell(api.PartColumn, described(named("?", api.TypeVarString)))
		}
		if n > 0 {
			a.end(c, false, 2)
		}
	}
}

func (a *answer) tellRows(random *rand.Rand, cols []api.Column, binary bool) {
	for range random.Intn(4) {
		if binary {
			a.tell(api.PartRow, drawBinary(random, cols))
			continue
		}
		var b []byte
		for range cols {
			b = append(b, list([]byte{251}, counted("123"), counted("v7"))[random.Intn(3)]...)
		}
		a.tell(api.PartRow, b)
	}
}

func drawBinary(random *rand.Rand, cols []api.Column) []byte {
	head, values := []byte{0, 0}, []byte(nil)
	for i, c := range cols {
		switch {
		case random.Intn(4) == 0:
			head[1] |= 4 << i
		case c.Type == api.TypeLongLong:
			values = append(values, 123, 0, 0, 0, 0, 0, 0, 0)
		default:
			values = append(values, counted("v7")...)
		}
	}
	return append(head, values...)
}
