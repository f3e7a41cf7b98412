package column_test

import (
	"bytes"
	"math"
	"math/rand"
	"strings"
	"testing"

	"sluicegate/api"
	"sluicegate/column"
)

func wantAppend(t *testing.T, b []byte, c api.Column, want []byte) {
	t.Helper()
	if e := column.Check(c); e != api.OK {
		t.Errorf("Check of %s: %v", brief(c), e)
	}
	if got, e := column.Append(b, c); !bytes.Equal(got, want) || e != api.OK {
		t.Errorf("Append of %s behind %d bytes: %s, %v, want %s", brief(c), len(b), brief(got), e, brief(want))
	}
}

func wantRefused(t *testing.T, c api.Column) {
	t.Helper()
	if e := column.Check(c); e != api.ErrArg {
		t.Errorf("Check of %s: %v", brief(c), e)
	}
	for _, b := range [][]byte{nil, {}, {1, 2}} {
		if got, e := column.Append(b, c); len(got) != 0 || e != api.ErrArg {
			t.Errorf("Append of %s behind %d bytes: %s, %v", brief(c), len(b), brief(got), e)
		}
	}
}

// wantPut asks that a column is appended if it may be, and refused else.
func wantPut(t *testing.T, c api.Column) {
	t.Helper()
	if !mayBe(c) {
		wantRefused(t, c)
		return
	}
	wantAppend(t, nil, c, plainBytes(c))
	wantAppend(t, []byte{255, 0}, c, join([]byte{255, 0}, plainBytes(c)))
}

func wantRead(t *testing.T, b []byte, want api.Column) {
	t.Helper()
	if got, e := column.Read(b); got != want || e != api.OK {
		t.Errorf("Read of %s: %s, %v, want %s", brief(b), brief(got), e, brief(want))
	}
}

func wantError(t *testing.T, b []byte, want api.Errno) {
	t.Helper()
	if got, e := column.Read(b); got != (api.Column{}) || e != want {
		t.Errorf("Read of %s: %s, %v, want %v", brief(b), brief(got), e, want)
	}
}

// wantPlain asks that bytes are read as the chapter reads them.
func wantPlain(t *testing.T, b []byte) {
	t.Helper()
	want, wantE := plainRead(b)
	if got, e := column.Read(b); got != want || e != wantE {
		t.Errorf("Read of %s: %s, %v, want %s, %v", brief(b), brief(got), e, brief(want), wantE)
	}
}

func wantCount(t *testing.T, b []byte, n int, want []byte, wantE api.Errno) {
	t.Helper()
	if got, e := column.AppendCount(b, n); !bytes.Equal(got, want) || e != wantE {
		t.Errorf("AppendCount of %d behind %v: %v, %v, want %v, %v", n, b, got, e, want, wantE)
	}
}

func wantReadCount(t *testing.T, b []byte, want int, wantE api.Errno) {
	t.Helper()
	if n, e := column.ReadCount(b); n != want || e != wantE {
		t.Errorf("ReadCount of %v: %d, %v, want %d, %v", b, n, e, want, wantE)
	}
}

// example is the column of the chapter's examples.
func example() api.Column {
	return api.Column{Schema: "s", Table: "t", OrgTable: "t", Name: "a", OrgName: "a", Charset: 63, Length: 11, Type: api.TypeLongLong}
}

func TestExamples(t *testing.T) {
	b, e := column.Append(nil, example())
	if len(b) != 27 || !bytes.HasPrefix(b, []byte{3, 'd', 'e', 'f'}) || e != api.OK {
		t.Errorf("Append: %v, %v", b, e)
	}
	wantCount(t, nil, 1, []byte{1}, api.OK)
	wantCount(t, nil, 300, []byte{252, 44, 1}, api.OK)
	wantCount(t, nil, 0, nil, api.ErrArg)
	wantReadCount(t, []byte{252, 1, 0}, 0, api.ErrBad)
	wantReadCount(t, []byte{1, 0}, 0, api.ErrBad)
	wantReadCount(t, nil, 0, api.ErrShort)
	if column.Name(8) != "long-long" || column.Name(14) != "type-14" || column.Known(14) {
		t.Errorf("Name of 8 and of 14, Known of 14: %q, %q, %v", column.Name(8), column.Name(14), column.Known(14))
	}
}

// TestP15_1Written has bytes that were written out by hand.
func TestP15_1Written(t *testing.T) {
	zeros := []byte{3, 'd', 'e', 'f', 0, 0, 0, 0, 0, 12, 0, 0, 0, 0, 0, 0, 0, 0, 0, 0, 0, 0}
	long := bare()
	long.Name = strings.Repeat("n", 251)
	for _, x := range []struct {
		c    api.Column
		want []byte
	}{
		{bare(), zeros},
		{example(), []byte{3, 'd', 'e', 'f', 1, 's', 1, 't', 1, 't', 1, 'a', 1, 'a', 12, 63, 0, 11, 0, 0, 0, 8, 0, 0, 0, 0, 0}},
		{basic(), []byte{3, 'd', 'e', 'f', 3, 's', 'c', 'h', 2, 't', 'a', 4, 'o', 'r', 'g', 't', 1, 'n', 5, 'o', 'r', 'g', 'n', 'a',
			12, 1, 2, 3, 4, 5, 6, 253, 7, 8, 9, 0, 0}},
		{api.Column{Charset: 1<<16 - 1, Length: 1<<32 - 1, Type: 255, Flags: api.FlagUnsigned, Decimals: 255},
			[]byte{3, 'd', 'e', 'f', 0, 0, 0, 0, 0, 12, 255, 255, 255, 255, 255, 255, 255, 32, 0, 255, 0, 0}},
		{long, join(zeros[:7], []byte{252, 251, 0}, bytes.Repeat([]byte{'n'}, 251), zeros[8:])},
	} {
		wantAppend(t, nil, x.c, x.want)
		wantAppend(t, []byte{9, 0}, x.c, join([]byte{9, 0}, x.want))
		wantRead(t, x.want, x.c)
	}
}

// TestP15_1Behind has columns behind nothing and behind something, their own bytes too.
func TestP15_1Behind(t *testing.T) {
	for _, c := range columns() {
		own := plainBytes(c)
		for _, b := range [][]byte{nil, {}, {0}, {254, 255, 251}, own, []byte(climbing(0, 300))} {
			wantAppend(t, b, c, join(b, own))
		}
	}
}

func TestP15_1EachType(t *testing.T) {
	for _, base := range []api.Column{basic(), bare(), most()} {
		for i := range 256 {
			c := withType(base, byte(i))
			wantPut(t, c)
			b := plainBytes(c)
			if isKnown(byte(i)) {
				wantRead(t, b, c)
				continue
			}
			at := len(b) - 6
			wantError(t, b[:at], api.ErrShort)
			for end := at + 1; end <= len(b); end++ {
				wantError(t, b[:end], api.ErrBad)
			}
			wantError(t, append(b, 0), api.ErrBad)
		}
	}
}

// TestP15_1EachText has each text of each length up to 300, and of great ones: up to 255 bytes it may be.
func TestP15_1EachText(t *testing.T) {
	for _, base := range []api.Column{basic(), bare(), most()} {
		for i := range 5 {
			for n := range 301 {
				c := withText(base, i, climbing(byte(i), n))
				wantPut(t, c)
				wantPlain(t, plainBytes(c))
			}
			for _, n := range []int{511, 512, 513, 65535, 65536, 65791, 1 << 20} {
				c := withText(base, i, strings.Repeat("t", n))
				wantRefused(t, c)
				wantError(t, plainBytes(c), api.ErrBad)
			}
			for n, want := range map[int]api.Errno{0: api.OK, 255: api.OK, 256: api.ErrArg} {
				if e := column.Check(withText(base, i, climbing(0, n))); e != want {
					t.Errorf("Check with %d bytes as text %d: %v", n, i, e)
				}
			}
		}
	}
}

// TestP15_1TextsAndType has columns of which several things may not be, or one of them.
func TestP15_1TextsAndType(t *testing.T) {
	for bits := range 32 {
		for _, kind := range []byte{0, 13, 14, 15, 16, 17, 128, 244, 245, 255} {
			c := withType(basic(), kind)
			for i := range 5 {
				if bits>>i&1 == 1 {
					*textOf(&c, i) = climbing(0, 256)
				}
			}
			wantPut(t, c)
			wantPlain(t, plainBytes(c))
		}
	}
}

func TestP15_1Nothing(t *testing.T) {
	for _, b := range [][]byte{nil, {}, make([]byte, 0, 9), plainBytes(basic())[:0]} {
		wantError(t, b, api.ErrShort)
	}
}

// TestP15_1Def has other first texts.
func TestP15_1Def(t *testing.T) {
	rest := plainBytes(basic())[4:]
	for _, s := range []string{"", "d", "de", "deg", "Def", "DEF", "fed", "defa", " def", "def ", "def\x00", "\x00\x00\x00", climbing(0, 250), climbing(0, 255), climbing(0, 256), strings.Repeat("def", 1000)} {
		b := join(counted(s), rest)
		for end := range counted(s) {
			wantError(t, b[:end], api.ErrShort)
		}
		for end := len(counted(s)); end <= len(b); end++ {
			wantError(t, b[:end], api.ErrBad)
		}
	}
	for at := 1; at < 4; at++ {
		for x := range 256 {
			wantPlain(t, with(plainBytes(basic()), at, byte(x)))
		}
	}
}

// TestP15_1Twelve has each byte in the place of the one ahead of the numbers.
func TestP15_1Twelve(t *testing.T) {
	for _, c := range basics() {
		b := plainBytes(c)
		at := len(b) - 13
		for x := range 256 {
			spoilt := with(b, at, byte(x))
			if x == 12 {
				wantRead(t, spoilt, c)
				continue
			}
			for end := at + 1; end <= len(b); end++ {
				wantError(t, spoilt[:end], api.ErrBad)
			}
		}
		for _, form := range forms(12)[1:] {
			wantError(t, join(b[:at], form, b[at+1:]), api.ErrBad)
		}
	}
}

// TestP15_1Zeros turns each of the two bytes 0 at the end, and both: of one alone it is short.
func TestP15_1Zeros(t *testing.T) {
	for _, c := range basics() {
		b := plainBytes(c)
		for x := 1; x < 256; x++ {
			first, second := with(b, len(b)-2, byte(x)), with(b, len(b)-1, byte(x))
			both := with(first, len(b)-1, byte(x))
			for _, spoilt := range [][]byte{first, second, both} {
				wantError(t, spoilt, api.ErrBad)
				wantError(t, append(spoilt, 0), api.ErrBad)
				wantError(t, spoilt[:len(b)-1], api.ErrShort)
			}
		}
	}
}

// TestP15_1Forms has each text's count in each of its forms: all are read.
func TestP15_1Forms(t *testing.T) {
	c := basic()
	own := []string{"def", c.Schema, c.Table, c.OrgTable, c.Name, c.OrgName}
	for i := range 1 << 12 {
		var b []byte
		for j, s := range own {
			b = join(b, forms(uint64(len(s)))[i>>(2*j)&3], []byte(s))
		}
		wantRead(t, join(b, plainTail(c)), c)
	}
	for i := range 5 {
		for _, n := range []int{0, 1, 250, 251, 255, 256} {
			c := withText(bare(), i, climbing(3, n))
			head, tail := join(counted("def"), make([]byte, i)), join(make([]byte, 4-i), plainTail(c))
			for _, form := range forms(uint64(n)) {
				b := join(head, form, []byte(climbing(3, n)), tail)
				wantPlain(t, b)
				wantPlain(t, append(b, 0))
				for end := range b {
					wantPlain(t, b[:end])
				}
				if n == 256 {
					wantError(t, b, api.ErrBad)
					continue
				}
				wantRead(t, b, c)
			}
		}
	}
}

// TestP15_1NoCounts has bytes that begin no count, in the place of each text's.
func TestP15_1NoCounts(t *testing.T) {
	b := plainBytes(basic())
	for _, at := range []int{0, 4, 8, 11, 16, 18} {
		for _, x := range []byte{251, 255} {
			spoilt := with(b, at, x)
			wantError(t, spoilt[:at], api.ErrShort)
			for end := at + 1; end <= len(b); end++ {
				wantError(t, spoilt[:end], api.ErrBad)
			}
		}
	}
}

// TestP15_1GreatCounts has texts whose count is far beyond what is there.
func TestP15_1GreatCounts(t *testing.T) {
	b := plainBytes(basic())
	for _, at := range []int{0, 4, 8, 11, 16, 18} {
		for _, size := range []uint64{250, 255, 256, 65535, 65536, 1<<31 - 1, 1 << 31, 1 << 32, 1<<63 - 1, 1 << 63, 1<<64 - 2, 1<<64 - 1} {
			for _, form := range forms(size) {
				wantError(t, join(b[:at], form, b[at+1:]), api.ErrShort)
			}
		}
	}
}

// TestP15_1TwoFaults has two, of which the left one counts.
func TestP15_1TwoFaults(t *testing.T) {
	def := counted("def")
	long := counted(climbing(0, 256))
	for _, x := range []struct {
		b    []byte
		want api.Errno
	}{
		{[]byte{251}, api.ErrBad},
		{[]byte{252, 3}, api.ErrShort},
		{[]byte{3, 'd', 'e'}, api.ErrShort},
		{[]byte{3, 'x', 'x'}, api.ErrShort},
		{[]byte{3, 'x', 'x', 'x'}, api.ErrBad},
		{[]byte{3, 'x', 'x', 'x', 5, 'a'}, api.ErrBad},
		{join(def, []byte{1, 'a', 255}), api.ErrBad},
		{join(def, []byte{2, 'a', 255}), api.ErrShort},
		{join(def, long), api.ErrBad},
		{join(def, long[:len(long)-1]), api.ErrShort},
		{join(def, long, []byte{3}), api.ErrBad},
		{join(def, []byte{3}, long[:2]), api.ErrShort},
		{join(def, []byte{0, 0, 0, 0}, long), api.ErrBad},
		{join(def, []byte{0, 0, 0, 0, 0}), api.ErrShort},
		{join(def, []byte{0, 0, 0, 0, 0, 13}), api.ErrBad},
		{join(def, []byte{0, 0, 0, 0, 0, 12, 1, 1, 2, 2, 2, 2}), api.ErrShort},
		{join(def, []byte{0, 0, 0, 0, 0, 12, 1, 1, 2, 2, 2, 2, 14}), api.ErrBad},
		{join(def, []byte{0, 0, 0, 0, 0, 12, 1, 1, 2, 2, 2, 2, 14, 1}), api.ErrBad},
		{join(def, []byte{0, 0, 0, 0, 0, 12, 1, 1, 2, 2, 2, 2, 15, 1}), api.ErrShort},
		{join(def, []byte{0, 0, 0, 0, 0, 13, 1, 1, 2, 2, 2, 2, 15, 1}), api.ErrBad},
		{join(def, []byte{0, 0, 0, 0, 0, 12, 1, 1, 2, 2, 2, 2, 15, 3, 3, 4, 1}), api.ErrShort},
		{join(def, []byte{0, 0, 0, 0, 0, 12, 1, 1, 2, 2, 2, 2, 14, 3, 3, 4, 1}), api.ErrBad},
		{join(def, []byte{0, 0, 0, 0, 0, 12, 1, 1, 2, 2, 2, 2, 15, 3, 3, 4, 0, 1}), api.ErrBad},
		{join(def, []byte{0, 0, 0, 0, 0, 12, 1, 1, 2, 2, 2, 2, 15, 3, 3, 4, 0, 0, 0}), api.ErrBad},
	} {
		wantError(t, x.b, x.want)
	}
}

// TestP15_1OneTurned has columns with one byte turned, and cut there and behind.
func TestP15_1OneTurned(t *testing.T) {
	for _, c := range []api.Column{basic(), bare(), example()} {
		b := plainBytes(c)
		for at := range b {
			for x := range 256 {
				spoilt := with(b, at, byte(x))
				for end := at; end <= len(b); end++ {
					wantPlain(t, spoilt[:end])
				}
			}
		}
	}
}

func TestP15_1Few(t *testing.T) {
	for x := range 256 {
		wantPlain(t, []byte{byte(x)})
		for y := range 256 {
			wantPlain(t, []byte{byte(x), byte(y)})
			wantPlain(t, join(counted("def"), []byte{byte(x), byte(y)}))
		}
	}
}

func TestP15_1Drawn(t *testing.T) {
	r := rand.New(rand.NewSource(151))
	for range 20000 {
		wantPut(t, drawnColumn(r))
	}
	for range 200000 {
		wantPlain(t, drawnBytes(r))
	}
}

func TestP15_2EachCount(t *testing.T) {
	for n := -300; n <= 70000; n++ {
		if n < 1 || n > 4096 {
			wantCount(t, nil, n, nil, api.ErrArg)
			continue
		}
		want := forms(uint64(n))[0]
		wantCount(t, nil, n, want, api.OK)
		wantCount(t, []byte{}, n, want, api.OK)
		wantCount(t, []byte{252, 0}, n, join([]byte{252, 0}, want), api.OK)
	}
}

func TestP15_2Written(t *testing.T) {
	for _, x := range []struct {
		n    int
		want []byte
	}{
		{1, []byte{1}}, {250, []byte{250}}, {251, []byte{252, 251, 0}}, {255, []byte{252, 255, 0}}, {256, []byte{252, 0, 1}},
		{300, []byte{252, 44, 1}}, {4095, []byte{252, 255, 15}}, {4096, []byte{252, 0, 16}},
	} {
		wantCount(t, nil, x.n, x.want, api.OK)
		wantCount(t, []byte{7, 9}, x.n, join([]byte{7, 9}, x.want), api.OK)
		wantReadCount(t, x.want, x.n, api.OK)
	}
}

// TestP15_2OutOfBounds has numbers that no count has, behind bytes too.
func TestP15_2OutOfBounds(t *testing.T) {
	for _, n := range []int{0, -1, -250, -4096, 4097, 4098, 65535, 65536, 65537, 1 << 24, 1<<24 + 1, math.MaxInt32, 1<<32 + 1, math.MaxInt, math.MinInt, math.MinInt + 1, -1 << 32, -1<<32 + 1} {
		for _, b := range [][]byte{nil, {}, {1, 2}} {
			wantCount(t, b, n, nil, api.ErrArg)
		}
	}
}

// TestP15_2Forms has numbers in each of their forms: the shortest alone is a count's.
func TestP15_2Forms(t *testing.T) {
	for n := range 5000 {
		for i, form := range forms(uint64(n)) {
			want, wantE := n, api.OK
			if i > 0 || n < 1 || n > 4096 {
				want, wantE = 0, api.ErrBad
			}
			wantReadCount(t, form, want, wantE)
			wantReadCount(t, append(bytes.Clone(form), 0), 0, api.ErrBad)
			wantReadCount(t, append(bytes.Clone(form), form...), 0, api.ErrBad)
			for end := range form {
				wantReadCount(t, form[:end], 0, api.ErrShort)
			}
		}
	}
}

// TestP15_2Great has numbers far beyond what a count may be, such as turn into one if they lose their upper bits.
func TestP15_2Great(t *testing.T) {
	for _, x := range []uint64{65535, 65536, 65537, 1<<24 - 1, 1 << 24, 1<<24 + 1, 1<<31 - 1, 1 << 31, 1<<32 - 1, 1 << 32, 1<<32 + 1, 1<<32 + 300, 1<<63 - 1, 1 << 63, 1<<63 + 1, 1<<64 - 2, 1<<64 - 1} {
		for _, form := range forms(x) {
			wantReadCount(t, form, 0, api.ErrBad)
		}
	}
}

// TestP15_2Few has all bytes that are up to three, those that begin no count among them.
func TestP15_2Few(t *testing.T) {
	for _, b := range [][]byte{nil, {}, make([]byte, 0, 4), []byte{1, 2}[:0]} {
		wantReadCount(t, b, 0, api.ErrShort)
	}
	for _, x := range []byte{251, 255} {
		for _, b := range [][]byte{{x}, {x, 0}, {x, 1, 0}, {x, 1, 0, 0, 0, 0, 0, 0, 0}} {
			wantReadCount(t, b, 0, api.ErrBad)
		}
	}
	for x := range 256 {
		wantPlainCount(t, []byte{byte(x)})
		for y := range 256 {
			wantPlainCount(t, []byte{byte(x), byte(y)})
			for z := range 256 {
				if x >= 250 || z < 3 {
					wantPlainCount(t, []byte{byte(x), byte(y), byte(z)})
				}
			}
		}
	}
}

func wantPlainCount(t *testing.T, b []byte) {
	t.Helper()
	n, e := plainReadCount(b)
	wantReadCount(t, b, n, e)
}

func TestP15_2Drawn(t *testing.T) {
	r := rand.New(rand.NewSource(152))
	for range 200000 {
		b := make([]byte, r.Intn(11))
		for i := range b {
			b[i] = drawnByte(r)
		}
		wantPlainCount(t, b)
	}
}

func TestP15_3EachType(t *testing.T) {
	for i := range 256 {
		kind := byte(i)
		if known := column.Known(kind); known != isKnown(kind) {
			t.Errorf("Known of %d: %v", i, known)
		}
		if name := column.Name(kind); name != plainName(kind) {
			t.Errorf("Name of %d: %q, want %q", i, name, plainName(kind))
		}
	}
}

// TestP15_3Apart asks that no two types are called the same.
func TestP15_3Apart(t *testing.T) {
	seen := map[string]int{}
	for i := range 256 {
		seen[column.Name(byte(i))]++
	}
	if len(seen) != 256 {
		t.Errorf("%d names", len(seen))
	}
}

func TestP15_3Written(t *testing.T) {
	for kind, want := range map[byte]string{
		0: "decimal", 13: "year", 14: "type-14", 15: "var-char", 16: "bit", 17: "type-17", 99: "type-99", 100: "type-100", 200: "type-200",
		244: "type-244", 245: "json", 251: "long-blob", 255: "geometry",
	} {
		if name := column.Name(kind); name != want {
			t.Errorf("Name of %d: %q", kind, name)
		}
		if known := column.Known(kind); known == strings.HasPrefix(want, "type-") {
			t.Errorf("Known of %d: %v", kind, known)
		}
	}
}

// TestTypes asks of package api for the numbers that the chapter gives the types.
func TestTypes(t *testing.T) {
	for kind, want := range map[byte]byte{
		api.TypeDecimal: 0, api.TypeTiny: 1, api.TypeShort: 2, api.TypeLong: 3, api.TypeFloat: 4, api.TypeDouble: 5, api.TypeNull: 6,
		api.TypeTimestamp: 7, api.TypeLongLong: 8, api.TypeInt24: 9, api.TypeDate: 10, api.TypeTime: 11, api.TypeDateTime: 12, api.TypeYear: 13,
		api.TypeVarChar: 15, api.TypeBit: 16, api.TypeJSON: 245, api.TypeNewDecimal: 246, api.TypeEnum: 247, api.TypeSet: 248,
		api.TypeTinyBlob: 249, api.TypeMediumBlob: 250, api.TypeLongBlob: 251, api.TypeBlob: 252, api.TypeVarString: 253, api.TypeString: 254,
		api.TypeGeometry: 255,
	} {
		if kind != want {
			t.Errorf("%d is %d", want, kind)
		}
	}
	if api.FlagUnsigned != 32 || api.MaxColumns != 4096 {
		t.Errorf("FlagUnsigned, MaxColumns: %d, %d", api.FlagUnsigned, api.MaxColumns)
	}
}

// wantBack asks that what was appended behind b is read back, that its first parts are short, and that a byte more is too much.
func wantBack(t *testing.T, b []byte, c api.Column) {
	t.Helper()
	out, e := column.Append(b, c)
	if e != api.OK || !bytes.HasPrefix(out, b) {
		t.Fatalf("Append of %s behind %d bytes: %s, %v", brief(c), len(b), brief(out), e)
	}
	own := out[len(b):]
	wantRead(t, own, c)
	for end := range own {
		wantError(t, own[:end], api.ErrShort)
	}
	for _, x := range []byte{0, 1, 12, 255} {
		wantError(t, append(bytes.Clone(own), x), api.ErrBad)
	}
	wantError(t, append(bytes.Clone(own), own...), api.ErrBad)
}

func TestP15_4Columns(t *testing.T) {
	for _, c := range columns() {
		wantBack(t, []byte{3, 'd'}, c)
	}
	for _, c := range basics() {
		wantBack(t, nil, c)
		wantBack(t, []byte{}, c)
	}
}

func TestP15_4Drawn(t *testing.T) {
	r := rand.New(rand.NewSource(154))
	for range 3000 {
		if c := drawnColumn(r); mayBe(c) {
			wantBack(t, nil, c)
		}
	}
}

func TestP15_4Counts(t *testing.T) {
	for n := 1; n <= 4096; n++ {
		out, e := column.AppendCount([]byte{252}, n)
		if e != api.OK || len(out) < 2 {
			t.Fatalf("AppendCount of %d: %v, %v", n, out, e)
		}
		own := out[1:]
		wantReadCount(t, own, n, api.OK)
		for end := range own {
			wantReadCount(t, own[:end], 0, api.ErrShort)
		}
		for _, x := range []byte{0, 1, 255} {
			wantReadCount(t, append(bytes.Clone(own), x), 0, api.ErrBad)
		}
	}
}
