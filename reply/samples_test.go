package reply_test

import (
	"bytes"
	"fmt"
	"math/rand"
	"strings"
	"testing"

	"sluicegate/api"
	"sluicegate/reply"
)

// sample is a thing that may be, with its bytes as the chapter says them, and the calls that are about it.
type sample struct {
	name  string
	thing any
	bytes []byte
	least int  // how many of the bytes must be there
	open  bool // its last field goes up to the end
	put   func(b []byte) ([]byte, api.Errno)
	reading
}

// reading is how bytes are read: by the package, and plainly.
type reading struct {
	kind  string
	read  func(b []byte) (any, api.Errno)
	plain func(b []byte) (any, api.Errno)
}

func okReading(c api.Caps) reading {
	return reading{
		fmt.Sprintf("OK by %x", c),
		func(b []byte) (any, api.Errno) { return reply.ReadOk(b, c) },
		func(b []byte) (any, api.Errno) { return readOk(b, c) },
	}
}

func errReading() reading {
	return reading{
		"ERR",
		func(b []byte) (any, api.Errno) { return reply.ReadErr(b) },
		func(b []byte) (any, api.Errno) { return readErr(b) },
	}
}

func eofReading() reading {
	return reading{
		"EOF",
		func(b []byte) (any, api.Errno) { return reply.ReadEof(b) },
		func(b []byte) (any, api.Errno) { return readEof(b) },
	}
}

func preparedReading() reading {
	return reading{
		"prepared",
		func(b []byte) (any, api.Errno) { return reply.ReadPrepared(b) },
		func(b []byte) (any, api.Errno) { return readPrepared(b) },
	}
}

func fileReading() reading {
	return reading{
		"file",
		func(b []byte) (any, api.Errno) { return reply.ReadFile(b) },
		func(b []byte) (any, api.Errno) { return readFile(b) },
	}
}

func readings() []reading {
	return []reading{okReading(0), okReading(tracks), okReading(^tracks), okReading(^api.Caps(0)), errReading(), eofReading(), preparedReading(), fileReading()}
}

func ofOk(c api.Caps, o api.Ok, last bool) sample {
	own := plainOk(c, o, last)
	least, open := len(own), c&tracks == 0
	if open {
		least -= len(o.Info)
	}
	return sample{
		fmt.Sprintf("OK %d %d %x %d by %x, last %v, with %d and %d", o.Affected, o.Insert, o.Status, o.Warnings, c, last, len(o.Info), len(o.Track)),
		o, own, least, open,
		func(b []byte) ([]byte, api.Errno) { return reply.AppendOk(b, c, o, last) },
		okReading(c),
	}
}

func ofErr(e api.Err) sample {
	return sample{
		fmt.Sprintf("ERR %d %q %.20q", e.Code, e.State, e.Text), e, plainErr(e), 9, true,
		func(b []byte) ([]byte, api.Errno) { return reply.AppendErr(b, e) },
		errReading(),
	}
}

func ofEof(f api.Eof) sample {
	return sample{
		fmt.Sprintf("EOF %d %d", f.Warnings, f.Status), f, plainEof(f), 5, false,
		func(b []byte) ([]byte, api.Errno) { return reply.AppendEof(b, f), api.OK },
		eofReading(),
	}
}

func ofPrepared(p api.Prepared) sample {
	return sample{
		fmt.Sprintf("prepared %+v", p), p, plainPrepared(p), 12, false,
		func(b []byte) ([]byte, api.Errno) { return reply.AppendPrepared(b, p), api.OK },
		preparedReading(),
	}
}

func ofFile(name string) sample {
	return sample{
		fmt.Sprintf("file %.20q", name), name, plainFile(name), 2, true,
		func(b []byte) ([]byte, api.Errno) { return reply.AppendFile(b, name) },
		fileReading(),
	}
}

// climbing is bytes one more each, from one on.
func climbing(from byte, n int) []byte {
	l := make([]byte, n)
	for i := range l {
		l[i] = from + byte(i)
	}
	return l
}

// with is b with another byte at a place.
func with(b []byte, at int, x byte) []byte {
	b = bytes.Clone(b)
	b[at] = x
	return b
}

// edges are counted numbers at the ends of each form.
func edges() []uint64 {
	return []uint64{0, 1, 249, 250, 251, 252, 254, 255, 256, 65534, 65535, 65536, 1<<24 - 1, 1 << 24, 1 << 32, 1<<63 - 1, 1 << 63, 1<<64 - 2, 1<<64 - 1}
}

func numbers4() []uint32 {
	return []uint32{0, 1, 255, 256, 65535, 65536, 1 << 24, 0x04030201, 1<<31 - 1, 1 << 31, 1<<32 - 1}
}

func numbers2() []uint16 {
	return []uint16{0, 1, 2, 255, 256, 0x0201, 1<<15 - 1, 1 << 15, 1<<16 - 1}
}

// statuses have the flag that something of the session changed, alone and beside others, and don't have it.
func statuses() []uint16 {
	return []uint16{0, 1, 2, 1 << 13, changed, changed | 2, 1 << 15, changed - 1, ^changed, 1<<16 - 1}
}

func texts() []string {
	return []string{"", "\x00", "a", "\xff\xfe", "#", "ä€", "\xfbab", string(climbing(0, 250)), string(climbing(1, 251)), string(climbing(0, 256)), strings.Repeat("x", 65535), strings.Repeat("y", 65536)}
}

func capsSets() []api.Caps {
	return []api.Caps{0, tracks, deprecates, tracks | deprecates, ^tracks, ^api.Caps(0)}
}

// basicOk and its like are what the tests change one thing of.
func basicOk() api.Ok {
	return api.Ok{Affected: 0x0201, Insert: 0x050403, Status: changed | 2, Warnings: 0x0706, Info: "inf", Track: []byte{8, 0, 9, 10}}
}

func basicErr() api.Err {
	return api.Err{Code: 0x0201, State: "42S02", Text: "no such"}
}

func basicPrepared() api.Prepared {
	return api.Prepared{Stmt: 0x04030201, Columns: 0x0605, Params: 0x0807, Warnings: 0x0a09}
}

// onlyBy keeps of an OK what its capabilities and its status have.
func onlyBy(c api.Caps, o api.Ok) api.Ok {
	if !plainOkMay(c, o) {
		o.Track = nil
	}
	return o
}

// bothOks is an OK that ends rows, and one that does not.
func bothOks(c api.Caps, o api.Ok) []sample {
	o = onlyBy(c, o)
	return []sample{ofOk(c, o, false), ofOk(c, o, true)}
}

func oks() []sample {
	var l []sample
	for _, c := range capsSets() {
		for _, affected := range edges() {
			for _, insert := range edges() {
				l = append(l, bothOks(c, api.Ok{Affected: affected, Insert: insert, Status: changed, Info: "i", Track: []byte{1}})...)
			}
		}
		for _, status := range statuses() {
			for _, warnings := range numbers2() {
				l = append(l, bothOks(c, api.Ok{Status: status, Warnings: warnings, Info: "info", Track: []byte{0}})...)
			}
			for _, info := range texts() {
				l = append(l, bothOks(c, api.Ok{Affected: 1, Status: status, Info: info})...)
				l = append(l, bothOks(c, api.Ok{Insert: 2, Status: status, Track: []byte(info)})...)
				l = append(l, bothOks(c, api.Ok{Status: status, Info: info, Track: []byte(info)})...)
			}
		}
	}
	return l
}

func errs() []sample {
	l := []sample{ofErr(basicErr())}
	for _, code := range numbers2() {
		for _, state := range []string{"42000", "HY000", "#####", "\x00\x00\x00\x00\x00", "\xff\xfe\xfd\xfc\xfb", "ä€"} {
			l = append(l, ofErr(api.Err{Code: code, State: state}), ofErr(api.Err{Code: code, State: state, Text: "#42000"}))
		}
	}
	for _, text := range texts() {
		l = append(l, ofErr(api.Err{Code: 1064, State: "42000", Text: text}))
	}
	return l
}

func eofs() []sample {
	var l []sample
	for _, warnings := range numbers2() {
		for _, status := range numbers2() {
			l = append(l, ofEof(api.Eof{Warnings: warnings, Status: status}))
		}
	}
	return l
}

func prepareds() []sample {
	l := []sample{ofPrepared(basicPrepared())}
	for _, stmt := range numbers4() {
		for _, x := range numbers2() {
			l = append(l, ofPrepared(api.Prepared{Stmt: stmt, Columns: x}), ofPrepared(api.Prepared{Stmt: stmt, Params: x}),
				ofPrepared(api.Prepared{Stmt: stmt, Warnings: x}), ofPrepared(api.Prepared{Stmt: stmt, Columns: x, Params: x, Warnings: x}))
		}
	}
	return l
}

func fileNames() []sample {
	var l []sample
	for _, name := range texts() {
		if name != "" {
			l = append(l, ofFile(name))
		}
	}
	return l
}

func samples() []sample {
	var l []sample
	for _, some := range [][]sample{oks(), errs(), eofs(), prepareds(), fileNames()} {
		l = append(l, some...)
	}
	return l
}

// basics are few and short, of each thing and each shape of an OK.
func basics() []sample {
	l := []sample{ofErr(basicErr()), ofErr(api.Err{State: "00000"}), ofEof(api.Eof{Warnings: 0x0201, Status: 0x0403}), ofPrepared(basicPrepared()), ofFile("name"), ofFile("\x00")}
	for _, c := range capsSets() {
		still := basicOk()
		still.Status = 2
		l = append(l, bothOks(c, basicOk())...)
		l = append(l, bothOks(c, still)...)
		l = append(l, bothOks(c, api.Ok{})...)
		l = append(l, bothOks(c, api.Ok{Status: changed})...)
	}
	return l
}

// drawnOk has a Track, whether it may or not.
func drawnOk(r *rand.Rand) api.Ok {
	o := api.Ok{Affected: r.Uint64() >> r.Intn(64), Insert: r.Uint64() >> r.Intn(64), Status: uint16(r.Uint32()), Warnings: uint16(r.Uint32())}
	if r.Intn(2) == 0 {
		o.Info = string(climbing(byte(r.Int()), r.Intn(300)))
	}
	if r.Intn(2) == 0 {
		o.Track = climbing(byte(r.Int()), r.Intn(300))
	}
	return o
}

// drawnBytes are those of a sample, cut, spoilt, lengthened or as they are, or bytes that are drawn one by one.
func drawnBytes(r *rand.Rand, from []sample) []byte {
	b := bytes.Clone(from[r.Intn(len(from))].bytes)
	switch r.Intn(6) {
	case 0:
		b = b[:r.Intn(len(b)+1)]
	case 1:
		b = append(b, climbing(byte(r.Int()), r.Intn(4))...)
	case 2:
		b = drawnOneByOne(r)
	}
	for range r.Intn(3) {
		if len(b) > 0 {
			b[r.Intn(len(b))] = drawnByte(r)
		}
	}
	return b
}

// drawnOneByOne begins mostly as some packet does.
func drawnOneByOne(r *rand.Rand) []byte {
	b := make([]byte, r.Intn(16))
	for i := range b {
		b[i] = drawnByte(r)
	}
	if len(b) > 0 && r.Intn(4) > 0 {
		b[0] = []byte{0, 254, 255, 251}[r.Intn(4)]
	}
	return b
}

// drawnByte is often one at which something hangs.
func drawnByte(r *rand.Rand) byte {
	if r.Intn(3) == 0 {
		return byte(r.Int())
	}
	return []byte{0, 0, 0, 1, 2, 3, 35, 64, 250, 251, 252, 253, 254, 255}[r.Intn(14)]
}

// same holds a nil Track and an empty one for one.
func same(a, b any) bool {
	x, isOk := a.(api.Ok)
	y, areOk := b.(api.Ok)
	if !isOk || !areOk {
		return !isOk && !areOk && a == b
	}
	return x.Affected == y.Affected && x.Insert == y.Insert && x.Status == y.Status && x.Warnings == y.Warnings && x.Info == y.Info && bytes.Equal(x.Track, y.Track)
}

// isZero answers whether a thing is what stands beside an error.
func isZero(thing any) bool {
	switch x := thing.(type) {
	case api.Ok:
		return same(x, api.Ok{})
	case api.Err:
		return x == api.Err{}
	case api.Eof:
		return x == api.Eof{}
	case api.Prepared:
		return x == api.Prepared{}
	}
	return thing == ""
}

// brief is what a failed test tells of bytes or of a thing.
func brief(x any) string {
	s := strings.ToValidUTF8(fmt.Sprintf("%+v", x), "?")
	if len(s) > 200 {
		s = s[:200] + " .."
	}
	return s
}

// TestSame asks of same and of isZero that they tell all fields apart.
func TestSame(t *testing.T) {
	things := []any{api.Ok{}, api.Ok{Affected: 1}, api.Ok{Insert: 1}, api.Ok{Status: 1}, api.Ok{Warnings: 1}, api.Ok{Info: "a"}, api.Ok{Track: []byte{0}},
		api.Err{}, api.Err{Code: 1}, api.Err{State: "a"}, api.Err{Text: "a"}, api.Eof{}, api.Eof{Warnings: 1}, api.Eof{Status: 1},
		api.Prepared{}, api.Prepared{Stmt: 1}, api.Prepared{Columns: 1}, api.Prepared{Params: 1}, api.Prepared{Warnings: 1}, "", "a"}
	zeros := 0
	for i, a := range things {
		for j, b := range things {
			if same(a, b) != (i == j) {
				t.Errorf("%+v and %+v", a, b)
			}
		}
		if isZero(a) {
			zeros++
		}
	}
	if zeros != 5 {
		t.Errorf("%d are zero", zeros)
	}
}
