package row_test

import (
	"bytes"
	"math"
	"math/rand"
	"slices"
	"strings"
	"testing"

	"sluicegate/api"
	"sluicegate/row"
)

// heads are what stands in front where something is appended.
var heads = [][]byte{nil, {}, {7}, {255, 0, 251}}

// wantTextRow asks that a row has these bytes, and is read back from them.
func wantTextRow(t *testing.T, l []api.Value, want []byte) {
	t.Helper()
	for _, b := range heads {
		if got, e := row.AppendText(b, l); !bytes.Equal(got, join(b, want)) || e != api.OK {
			t.Errorf("AppendText of %s behind %v: %s, %v, want %s", brief(l), b, brief(got), e, brief(want))
		}
	}
	wantText(t, want, len(l), l)
}

func wantTextRefused(t *testing.T, l []api.Value, want api.Errno) {
	t.Helper()
	for _, b := range heads {
		if got, e := row.AppendText(b, l); len(got) != 0 || e != want {
			t.Errorf("AppendText of %s behind %v: %s, %v, want %v", brief(l), b, brief(got), e, want)
		}
	}
}

func wantText(t *testing.T, b []byte, n int, want []api.Value) {
	t.Helper()
	if got, e := row.ReadText(b, n); !slices.Equal(got, want) || e != api.OK {
		t.Errorf("ReadText of %s, %d columns: %s, %v, want %s", brief(b), n, brief(got), e, brief(want))
	}
}

func wantTextError(t *testing.T, b []byte, n int, want api.Errno) {
	t.Helper()
	if got, e := row.ReadText(b, n); len(got) != 0 || e != want {
		t.Errorf("ReadText of %s, %d columns: %s, %v, want %v", brief(b), n, brief(got), e, want)
	}
}

// wantPlainText asks that bytes are read as the chapter reads them.
func wantPlainText(t *testing.T, b []byte, n int) {
	t.Helper()
	want, wantE := plainReadText(b, n)
	if got, e := row.ReadText(b, n); !slices.Equal(got, want) || e != wantE {
		t.Errorf("ReadText of %s, %d columns: %s, %v, want %s, %v", brief(b), n, brief(got), e, brief(want), wantE)
	}
}

// wantBinaryRow asks that a row has these bytes, and is read back from them.
func wantBinaryRow(t *testing.T, l []api.Value, types []api.Typed, want []byte) {
	t.Helper()
	for _, b := range heads {
		if got, e := row.AppendBinary(b, l, types); !bytes.Equal(got, join(b, want)) || e != api.OK {
			t.Errorf("AppendBinary of %s as %s behind %v: %s, %v, want %s", brief(l), brief(types), b, brief(got), e, brief(want))
		}
	}
	wantBinary(t, want, types, l)
}

func wantBinaryRefused(t *testing.T, l []api.Value, types []api.Typed, want api.Errno) {
	t.Helper()
	for _, b := range heads {
		if got, e := row.AppendBinary(b, l, types); len(got) != 0 || e != want {
			t.Errorf("AppendBinary of %s as %s behind %v: %s, %v, want %v", brief(l), brief(types), b, brief(got), e, want)
		}
	}
}

func wantBinary(t *testing.T, b []byte, types []api.Typed, want []api.Value) {
	t.Helper()
	if got, e := row.ReadBinary(b, types); !slices.Equal(got, want) || e != api.OK {
		t.Errorf("ReadBinary of %s as %s: %s, %v, want %s", brief(b), brief(types), brief(got), e, brief(want))
	}
}

// wantBinaryError asks the same of Turned, which has ReadBinary's errors.
func wantBinaryError(t *testing.T, b []byte, types []api.Typed, want api.Errno) {
	t.Helper()
	if got, e := row.ReadBinary(b, types); len(got) != 0 || e != want {
		t.Errorf("ReadBinary of %s as %s: %s, %v, want %v", brief(b), brief(types), brief(got), e, want)
	}
	wantTurned(t, b, types, nil, want)
}

// wantPlainBinary asks that bytes are read, and turned, as the chapter does it.
func wantPlainBinary(t *testing.T, b []byte, types []api.Typed) {
	t.Helper()
	want, wantE := plainReadBinary(b, types)
	if got, e := row.ReadBinary(b, types); !slices.Equal(got, want) || e != wantE {
		t.Errorf("ReadBinary of %s as %s: %s, %v, want %s, %v", brief(b), brief(types), brief(got), e, brief(want), wantE)
	}
	texts, wantE := plainTurned(b, types)
	wantTurned(t, b, types, texts, wantE)
}

func wantTurned(t *testing.T, b []byte, types []api.Typed, want []byte, wantE api.Errno) {
	t.Helper()
	if got, e := row.Turned(b, types); !bytes.Equal(got, want) || e != wantE {
		t.Errorf("Turned of %s as %s: %s, %v, want %s, %v", brief(b), brief(types), brief(got), e, brief(want), wantE)
	}
}

func TestExamples(t *testing.T) {
	wantTextRow(t, list(text("a"), api.Value{}, text("")), []byte{1, 97, 251, 0})

	types := list(typed(api.TypeLong), typed(api.TypeTiny))
	wantBinaryRow(t, list(integer(1), api.Value{}), types, []byte{0, 8, 1, 0, 0, 0})
	wantBinaryError(t, []byte{0, 8, 1, 0, 0}, types, api.ErrShort)

	tiny := list(typed(api.TypeTiny))
	wantBinary(t, []byte{0, 4}, tiny, list(api.Value{}))
	wantBinaryError(t, []byte{0, 1}, tiny, api.ErrBad)
	wantBinaryError(t, []byte{1}, tiny, api.ErrBad)
	wantTurned(t, []byte{0, 0, 255}, tiny, []byte{2, '-', '1'}, api.OK)
}

// TestP17_1Written has text rows that were written out by hand.
func TestP17_1Written(t *testing.T) {
	null := api.Value{}
	wantTextRow(t, nil, nil)
	wantTextRow(t, []api.Value{}, nil)
	wantTextRow(t, list(null), []byte{251})
	wantTextRow(t, list(null, null), []byte{251, 251})
	wantTextRow(t, list(text("")), []byte{0})
	wantTextRow(t, list(text("ab"), text("c")), []byte{2, 'a', 'b', 1, 'c'})
	wantTextRow(t, list(text("\xfb"), null), []byte{1, 251, 251})
	wantTextRow(t, list(null, text("\x00\xff")), []byte{251, 2, 0, 255})
	plain, long := climbing(3, 250), climbing(4, 251)
	wantTextRow(t, list(text(plain), text(long)), join([]byte{250}, []byte(plain), []byte{252, 251, 0}, []byte(long)))
	wide := climbing(6, 65_536)
	wantTextRow(t, list(text(wide), null), join([]byte{253, 0, 0, 1}, []byte(wide), []byte{251}))
}

// TestP17_1Samples has rows of texts and Nulls, as the chapter reads.
func TestP17_1Samples(t *testing.T) {
	for _, l := range textRows() {
		want, _ := plainAppendText(nil, l)
		wantTextRow(t, l, want)
	}
}

// TestP17_1MostColumns has as many values as may be, and one more.
func TestP17_1MostColumns(t *testing.T) {
	const most = 4096
	wantTextRow(t, times(api.Value{}, most), times(byte(251), most))
	wantTextRow(t, times(text(""), most), times(byte(0), most))
	wantTextRow(t, times(text("x"), most), bytes.Repeat([]byte{1, 'x'}, most))
	wantTextRefused(t, times(api.Value{}, most+1), api.ErrLong)
	wantTextRefused(t, times(text("x"), most+1), api.ErrLong)
	wantTextRefused(t, times(api.Value{}, 2*most), api.ErrLong)
}

// TestP17_1Refused has values that no text row has, at each place of a row.
func TestP17_1Refused(t *testing.T) {
	wrong := wrongOf(typed(api.TypeVarString))
	for _, v := range []api.Value{{Kind: math.MinInt64}, {Kind: math.MaxInt64}, integer(0), natural(0), float(0), double(0), date(api.When{}), span(api.When{})} {
		wrong = append(wrong, v)
	}
	for _, other := range []api.Value{{Int: -1}, {Bits: 1}, {When: api.When{Neg: true}}, {When: api.When{Year: 1}}, {When: api.When{Micro: 1}}} {
		wrong = append(wrong, other)
		other.Kind = api.ValueText
		wrong = append(wrong, other)
		other.Text = "a"
		wrong = append(wrong, other)
	}
	right := list(text("a"), api.Value{}, text(""))
	for _, v := range wrong {
		wantTextRefused(t, list(v), api.ErrArg)
		for i := range right {
			wantTextRefused(t, with(right, i, v), api.ErrArg)
		}
		for _, at := range []int{0, 1, 4095} {
			if got, e := row.AppendText(nil, with(times(api.Value{}, 4096), at, v)); len(got) != 0 || e != api.ErrArg {
				t.Errorf("%s at %d of most values: %s, %v", brief(v), at, brief(got), e)
			}
		}
	}
}

// TestP17_1LongAheadOfWrong has too many values, of which one is wrong.
func TestP17_1LongAheadOfWrong(t *testing.T) {
	for _, at := range []int{0, 1, 4095, 4096} {
		wantTextRefused(t, with(times(api.Value{}, 4097), at, integer(1)), api.ErrLong)
	}
}

// TestP17_1Longest has texts of 2^24 bytes and of one more, appended and read.
func TestP17_1Longest(t *testing.T) {
	long := climbing(3, 1<<24+1)
	most := text(long[:1<<24])
	count := []byte{254, 0, 0, 0, 1, 0, 0, 0, 0}
	put := join(count, []byte(most.Text), []byte{251})
	wantTextRow(t, list(most, api.Value{}), put)
	wantTextError(t, put[:len(put)-1], 2, api.ErrShort)
	wantTextError(t, put[:len(put)-2], 2, api.ErrShort)
	wantTextError(t, put, 1, api.ErrBad)
	wantTextRefused(t, list(text(long)), api.ErrArg)
	wantTextRefused(t, list(api.Value{}, text(long)), api.ErrArg)

	more := join([]byte{254, 1, 0, 0, 1, 0, 0, 0, 0}, []byte(long))
	wantTextError(t, more, 1, api.ErrBad)
	wantTextError(t, more, 2, api.ErrBad)
	wantTextError(t, join(more, []byte{251}), 2, api.ErrBad)
	wantTextError(t, join([]byte{251}, more), 2, api.ErrBad)
	wantTextError(t, more[:len(more)-1], 1, api.ErrShort)
	wantTextError(t, more[:40], 1, api.ErrShort)
	wantTextError(t, more[:9], 1, api.ErrShort)
}

// TestP17_1Columns has counts of columns that may be, and such that may not, with bytes that are right and wrong.
func TestP17_1Columns(t *testing.T) {
	for _, n := range []int{-1, -2, -4096, math.MinInt64, 4097, 4098, 1 << 20, math.MaxInt32, math.MaxInt64} {
		for _, b := range [][]byte{nil, {}, {0}, {251}, {255}, {5, 'a'}, times(byte(251), 4097)} {
			wantTextError(t, b, n, api.ErrArg)
		}
	}
	wantText(t, times(byte(251), 4096), 4096, times(api.Value{}, 4096))
	wantTextError(t, times(byte(251), 4095), 4096, api.ErrShort)
	wantTextError(t, times(byte(251), 4097), 4096, api.ErrBad)
	wantText(t, times(byte(251), 4095), 4095, times(api.Value{}, 4095))
	wantTextError(t, nil, 4096, api.ErrShort)
}

// TestP17_1NoColumns is a row of nothing.
func TestP17_1NoColumns(t *testing.T) {
	wantText(t, nil, 0, nil)
	wantText(t, []byte{}, 0, nil)
	for x := range 256 {
		wantTextError(t, []byte{byte(x)}, 0, api.ErrBad)
		wantTextError(t, []byte{byte(x), 0}, 0, api.ErrBad)
	}
}

// TestP17_1FirstByte has each first byte, alone and with some behind it.
func TestP17_1FirstByte(t *testing.T) {
	for x := range 256 {
		for n := range 4 {
			for _, behind := range [][]byte{nil, {0}, {251}, {255}, {0, 0, 0}, {1, 0, 0, 0, 0, 0, 0, 0}, {1, 0, 0, 0, 0, 0, 0, 0, 'a'}, bytes.Repeat([]byte{0}, 300)} {
				wantPlainText(t, join([]byte{byte(x)}, behind), n)
			}
		}
	}
	wantText(t, []byte{251}, 1, list(api.Value{}))
	wantTextError(t, []byte{255}, 1, api.ErrBad)
	wantTextError(t, []byte{255, 0, 0, 0, 0, 0, 0, 0, 0}, 1, api.ErrBad)
	wantTextError(t, []byte{251, 255}, 2, api.ErrBad)
	wantTextError(t, []byte{255, 251}, 2, api.ErrBad)
}

// TestP17_1OtherForms has counts that are not in their shortest form: they are texts all the same.
func TestP17_1OtherForms(t *testing.T) {
	want := list(text("a"), api.Value{})
	for _, count := range [][]byte{{1}, {252, 1, 0}, {253, 1, 0, 0}, {254, 1, 0, 0, 0, 0, 0, 0, 0}} {
		b := join(count, []byte{'a', 251})
		wantText(t, b, 2, want)
		for end := range b {
			wantTextError(t, b[:end], 2, api.ErrShort)
		}
		wantTextError(t, join(b, []byte{0}), 2, api.ErrBad)
	}
	wantText(t, join([]byte{252, 251, 0}, []byte(climbing(0, 251))), 1, list(text(climbing(0, 251))))
}

// TestP17_1FromLeft has texts that are longer than what is there, and wrong ones ahead of them and within them.
func TestP17_1FromLeft(t *testing.T) {
	wantTextError(t, []byte{2, 'a'}, 1, api.ErrShort)
	wantTextError(t, []byte{250, 'a'}, 1, api.ErrShort)
	wantTextError(t, []byte{252, 0}, 1, api.ErrShort)
	wantTextError(t, []byte{254, 255, 255, 255, 255, 255, 255, 255, 255}, 1, api.ErrShort)
	wantTextError(t, []byte{254, 255, 255, 255, 255, 255, 255, 255, 127, 'a'}, 1, api.ErrShort)
	wantTextError(t, []byte{1, 'a', 2, 'b'}, 2, api.ErrShort)
	wantTextError(t, []byte{2, 255, 255}, 2, api.ErrShort)
	wantTextError(t, []byte{3, 255, 255}, 2, api.ErrShort)
	wantTextError(t, []byte{255, 3, 'a'}, 3, api.ErrBad)
	wantTextError(t, []byte{1, 'a', 255}, 3, api.ErrBad)
	wantTextError(t, []byte{1, 'a', 251, 0}, 2, api.ErrBad)
	wantTextError(t, []byte{1, 'a', 251, 255}, 2, api.ErrBad)
}

// TestP17_1Drawn holds drawn rows and bytes against a plain reading.
func TestP17_1Drawn(t *testing.T) {
	r := rand.New(rand.NewSource(17))
	of := typed(api.TypeVarString)
	for range 30_000 {
		var l []api.Value
		for range r.Intn(8) {
			l = append(l, drawnValue(r, of))
		}
		want, wantE := plainAppendText([]byte{9}, l)
		if got, e := row.AppendText([]byte{9}, l); !bytes.Equal(got, want) || e != wantE {
			t.Fatalf("AppendText of %s: %s, %v, want %s, %v", brief(l), brief(got), e, brief(want), wantE)
		}
		b, _ := plainAppendText(nil, l)
		wantPlainText(t, spoilt(r, b), len(l)+[]int{-1, 0, 0, 0, 0, 1}[r.Intn(6)])
	}
}

// bitRows are where one column's bit stands in rows of so many columns, as it was written out by hand.
var bitRows = []struct {
	n, at int
	bits  []byte
}{
	{1, 0, []byte{4}},
	{2, 1, []byte{8}},
	{5, 0, []byte{4}}, {5, 4, []byte{64}},
	{6, 0, []byte{4}}, {6, 4, []byte{64}}, {6, 5, []byte{128}},
	{7, 0, []byte{4, 0}}, {7, 5, []byte{128, 0}}, {7, 6, []byte{0, 1}},
	{13, 0, []byte{4, 0}}, {13, 5, []byte{128, 0}}, {13, 6, []byte{0, 1}}, {13, 12, []byte{0, 64}},
	{14, 0, []byte{4, 0}}, {14, 5, []byte{128, 0}}, {14, 6, []byte{0, 1}}, {14, 13, []byte{0, 128}},
	{15, 0, []byte{4, 0, 0}}, {15, 5, []byte{128, 0, 0}}, {15, 6, []byte{0, 1, 0}}, {15, 13, []byte{0, 128, 0}}, {15, 14, []byte{0, 0, 1}},
	{4096, 0, join([]byte{4}, make([]byte, 512))}, {4096, 4093, join(make([]byte, 511), []byte{128, 0})}, {4096, 4095, join(make([]byte, 512), []byte{2})},
}

// TestP17_2OneNull has one Null, and tiny numbers beside it.
func TestP17_2OneNull(t *testing.T) {
	for _, x := range bitRows {
		types := times(typed(api.TypeTiny), x.n)
		l := with(times(integer(7), x.n), x.at, api.Value{})
		wantBinaryRow(t, l, types, join([]byte{0}, x.bits, times(byte(7), x.n-1)))
		types[x.at] = typed(api.TypeNull)
		wantBinaryRow(t, l, types, join([]byte{0}, x.bits, times(byte(7), x.n-1)))
	}
}

// TestP17_2ManyNulls has no Null, and nothing else, and Nulls on both sides of a byte's end.
func TestP17_2ManyNulls(t *testing.T) {
	tiny, null := typed(api.TypeTiny), api.Value{}
	for _, x := range []struct {
		n    int
		bits []byte
	}{
		{1, []byte{4}}, {5, []byte{124}}, {6, []byte{252}}, {7, []byte{252, 1}}, {13, []byte{252, 127}}, {14, []byte{252, 255}}, {15, []byte{252, 255, 1}},
	} {
		wantBinaryRow(t, times(null, x.n), times(tiny, x.n), join([]byte{0}, x.bits))
		wantBinaryRow(t, times(null, x.n), times(typed(api.TypeNull), x.n), join([]byte{0}, x.bits))
		wantBinaryRow(t, times(integer(-1), x.n), times(tiny, x.n), join(make([]byte, 1+len(x.bits)), times(byte(255), x.n)))
	}
	l := with(with(times(integer(1), 7), 5, null), 6, null)
	wantBinaryRow(t, l, times(tiny, 7), []byte{0, 128, 1, 1, 1, 1, 1, 1})
	l = with(with(times(integer(1), 15), 13, null), 14, null)
	wantBinaryRow(t, l, times(tiny, 15), join([]byte{0, 0, 128, 1}, times(byte(1), 13)))
	l = with(with(l, 5, null), 0, null)
	wantBinaryRow(t, l, times(tiny, 15), join([]byte{0, 132, 128, 1}, times(byte(1), 11)))
}

// TestP17_2NoColumns has one byte of bits, of which none may be set.
func TestP17_2NoColumns(t *testing.T) {
	wantBinaryRow(t, nil, nil, []byte{0, 0})
	wantBinaryRow(t, []api.Value{}, []api.Typed{}, []byte{0, 0})
	wantBinaryError(t, nil, nil, api.ErrShort)
	wantBinaryError(t, []byte{0}, nil, api.ErrShort)
	wantBinaryError(t, []byte{1}, nil, api.ErrBad)
	wantBinaryError(t, []byte{0, 0, 0}, nil, api.ErrBad)
	for bit := range 8 {
		wantBinaryError(t, []byte{0, 1 << bit}, nil, api.ErrBad)
	}
	for _, v := range []api.Value{{}, integer(1), {Kind: -1}} {
		wantBinaryRefused(t, list(v), nil, api.ErrArg)
	}
}

// TestP17_2MostColumns has as many types as may be, and one more.
func TestP17_2MostColumns(t *testing.T) {
	const most = 4096
	tiny := typed(api.TypeTiny)
	wantBinaryRow(t, times(integer(9), most), times(tiny, most), join(make([]byte, 514), times(byte(9), most)))
	wantBinaryRow(t, times(api.Value{}, most), times(tiny, most), join([]byte{0, 252}, times(byte(255), 511), []byte{3}))
	row, types, put, _ := across(samples())
	row, types, put = slices.Repeat(row, most/len(row)), slices.Repeat(types, most/len(types)), bytes.Repeat(put, most/len(row))
	wantBinaryRow(t, row, types, join(make([]byte, 1+(len(row)+9)/8), put))

	for _, n := range []int{most + 1, 2 * most} {
		wantBinaryRefused(t, times(integer(9), n), times(tiny, n), api.ErrLong)
		wantBinaryRefused(t, nil, times(tiny, n), api.ErrLong)
		wantBinaryRefused(t, times(integer(9), most), times(tiny, n), api.ErrLong)
		wantBinaryRefused(t, times(natural(9), n), times(tiny, n), api.ErrLong)
		wantBinaryRefused(t, times(api.Value{}, n), times(typed(14), n), api.ErrLong)
		wantBinaryRefused(t, times(api.Value{}, n), with(times(tiny, n), 0, typed(17)), api.ErrLong)
		for _, b := range [][]byte{nil, {0}, {1}, make([]byte, 2*n)} {
			wantBinaryError(t, b, times(tiny, n), api.ErrLong)
			wantBinaryError(t, b, with(times(tiny, n), n-1, typed(14)), api.ErrLong)
			wantBinaryError(t, b, with(times(tiny, n), 0, typed(244)), api.ErrLong)
			wantBinaryError(t, b, times(typed(api.TypeFloat), n), api.ErrLong)
		}
	}
	wantBinaryRefused(t, times(integer(9), most+1), times(tiny, most), api.ErrArg)
	wantBinaryRefused(t, times(integer(9), most-1), times(tiny, most), api.ErrArg)
}

// TestP17_2OtherCounts has fewer and more values than types.
func TestP17_2OtherCounts(t *testing.T) {
	for n := range 17 {
		for m := range 17 {
			if n != m {
				wantBinaryRefused(t, times(integer(1), n), times(typed(api.TypeLong), m), api.ErrArg)
				wantBinaryRefused(t, times(api.Value{}, n), times(typed(api.TypeNull), m), api.ErrArg)
			}
		}
	}
}

// TestP17_2Samples has each kind alone, and all in one row.
func TestP17_2Samples(t *testing.T) {
	for _, x := range samples() {
		wantBinaryRow(t, list(x.v), list(x.of), join([]byte{0, 0}, x.put))
		wantBinaryRow(t, list(api.Value{}, x.v), list(x.of, x.of), join([]byte{0, 4}, x.put))
		wantBinaryRow(t, list(x.v, api.Value{}, x.v), list(x.of, typed(api.TypeNull), x.of), join([]byte{0, 8}, x.put, x.put))
	}
	row, types, put, _ := across(samples())
	wantBinaryRow(t, row, types, join(make([]byte, 1+(len(row)+9)/8), put))
	for _, x := range binaryRows() {
		want, _ := plainAppendBinary(nil, x.row, x.types)
		wantBinaryRow(t, x.row, x.types, want)
	}
}

// TestP17_2Null may be of each known type, and of no other.
func TestP17_2Null(t *testing.T) {
	for _, of := range knownTypes() {
		wantBinaryRow(t, list(api.Value{}), list(of), []byte{0, 4})
		wantBinaryRow(t, list(integer(3), api.Value{}), list(typed(api.TypeTiny), of), []byte{0, 8, 3})
	}
	for _, of := range unknownTypes() {
		wantBinaryRefused(t, list(api.Value{}), list(of), api.ErrArg)
		wantBinaryRefused(t, list(api.Value{}, api.Value{}), list(typed(api.TypeTiny), of), api.ErrArg)
		wantBinaryError(t, []byte{0, 4}, list(of), api.ErrArg)
		wantBinaryError(t, []byte{0, 12}, list(typed(api.TypeTiny), of), api.ErrArg)
	}
}

// TestP17_2Refused has values that may not be of their type, at each place.
func TestP17_2Refused(t *testing.T) {
	for _, of := range allTypes() {
		for _, v := range wrongOf(of) {
			wantBinaryRefused(t, list(v), list(of), api.ErrArg)
		}
	}
	row, types, _, _ := across(samples())
	for i, of := range types {
		for _, v := range wrongOf(of) {
			wantBinaryRefused(t, with(row, i, v), types, api.ErrArg)
			wantBinaryRefused(t, with(times(api.Value{}, len(row)), i, v), types, api.ErrArg)
		}
		wantBinaryRefused(t, row, with(types, i, typed(14)), api.ErrArg)
		wantBinaryRefused(t, row, with(types, i, typed(api.TypeNull)), api.ErrArg)
	}
	tiny := list(typed(api.TypeTiny))
	wantBinaryRefused(t, list(integer(128)), tiny, api.ErrArg)
	wantBinaryRefused(t, list(integer(-129)), tiny, api.ErrArg)
	wantBinaryRefused(t, list(text(climbing(0, 1<<24+1))), list(typed(api.TypeLongBlob)), api.ErrArg)
	wantBinaryRefused(t, list(span(api.When{Neg: true})), list(typed(api.TypeTime)), api.ErrArg)
}

// TestP17_2TypeNull has Nulls alone, and its bit always.
func TestP17_2TypeNull(t *testing.T) {
	for _, of := range list(typed(api.TypeNull), unsigned(api.TypeNull)) {
		wantBinaryRow(t, list(api.Value{}), list(of), []byte{0, 4})
		for _, v := range wrongOf(of) {
			wantBinaryRefused(t, list(v), list(of), api.ErrArg)
		}
		wantBinaryError(t, []byte{0, 0}, list(of), api.ErrBad)
		wantBinaryError(t, []byte{0, 0, 0}, list(of), api.ErrBad)
		wantBinaryError(t, []byte{0, 4, 0}, list(of), api.ErrBad)
		long := typed(api.TypeLong)
		wantBinaryError(t, []byte{0, 4, 1, 0, 0, 0}, list(long, of), api.ErrBad)
		wantBinaryError(t, []byte{0, 8, 1, 0, 0, 0}, list(of, long), api.ErrBad)
		wantBinaryError(t, []byte{0, 0, 1}, list(long, of), api.ErrBad)
		wantBinaryError(t, []byte{0, 0}, list(long, of), api.ErrBad)
		wantBinaryError(t, []byte{0, 0}, times(of, 7), api.ErrShort)
		wantBinaryError(t, []byte{0, 252, 0}, times(of, 7), api.ErrBad)
		wantBinary(t, []byte{0, 252, 1}, times(of, 7), times(api.Value{}, 7))
	}
}

// TestP17_2FirstByte has each first byte, ahead of bits that are right, that are wrong, and that are not there.
func TestP17_2FirstByte(t *testing.T) {
	for x := range 256 {
		want, short := api.ErrBad, api.ErrBad
		if x == 0 {
			want, short = api.OK, api.ErrShort
		}
		first := byte(x)
		types := times(typed(api.TypeTiny), 7)
		if _, e := row.ReadBinary([]byte{first, 252, 1}, types); e != want {
			t.Errorf("with %d ahead: %v, want %v", x, e, want)
		}
		wantBinaryError(t, []byte{first}, types, short)
		wantBinaryError(t, []byte{first, 252}, types, short)
		wantBinaryError(t, []byte{first, 252, 0}, types, short)
		wantBinaryError(t, []byte{first, 1, 0}, types, api.ErrBad)
	}
}

// TestP17_2Strays has each bit of rows of up to 30 columns: a column's is its Null, all others are wrong, be the values there or not.
func TestP17_2Strays(t *testing.T) {
	for n := range 31 {
		types := times(typed(api.TypeTiny), n)
		size := (n + 9) / 8
		for bit := range 8 * size {
			bits := make([]byte, 1+size)
			bits[1+bit/8] = 1 << (bit % 8)
			whole := join(bits, times(byte(3), n))
			if bit >= 2 && bit < n+2 {
				want := with(times(integer(3), n), bit-2, api.Value{})
				wantBinary(t, whole[:len(whole)-1], types, want)
				wantBinaryError(t, whole, types, api.ErrBad)
				wantPlainBinary(t, bits, types)
				continue
			}
			wantBinaryError(t, whole, types, api.ErrBad)
			wantBinaryError(t, bits, types, api.ErrBad)
			wantBinaryError(t, whole[:len(whole)-min(n, 1)], types, api.ErrBad)
			wantBinaryError(t, bits[:size], types, api.ErrShort)
		}
	}
}

// TestP17_2CutBits has bits that are wrong where not all of them are there.
func TestP17_2CutBits(t *testing.T) {
	tiny := typed(api.TypeTiny)
	wantBinaryError(t, []byte{0, 1}, times(tiny, 7), api.ErrShort)
	wantBinaryError(t, []byte{0, 3}, times(tiny, 14), api.ErrShort)
	wantBinaryError(t, []byte{0, 2, 255}, times(tiny, 15), api.ErrShort)
	wantBinaryError(t, []byte{0, 0}, with(times(tiny, 7), 0, typed(api.TypeNull)), api.ErrShort)
	wantBinaryError(t, []byte{0, 1, 0}, times(tiny, 7), api.ErrBad)
	wantBinaryError(t, []byte{0, 0, 2}, times(tiny, 7), api.ErrBad)
	wantBinaryError(t, []byte{0, 0, 128}, times(tiny, 13), api.ErrBad)
	wantBinaryError(t, []byte{0, 0, 0, 2}, times(tiny, 15), api.ErrBad)
}

// TestP17_2FromLeft has wrong values ahead of the place where b ends, and what would be one behind it.
func TestP17_2FromLeft(t *testing.T) {
	day, long, blob := typed(api.TypeDate), typed(api.TypeLong), typed(api.TypeBlob)
	wantBinaryError(t, []byte{0, 0, 5}, list(day, long), api.ErrBad)
	wantBinaryError(t, []byte{0, 0, 5, 1, 0}, list(day, long), api.ErrBad)
	wantBinaryError(t, []byte{0, 0, 4, 234, 7, 13, 1}, list(day, long), api.ErrBad)
	wantBinaryError(t, []byte{0, 0, 255, 9}, list(blob, blob), api.ErrBad)
	wantBinaryError(t, []byte{0, 0, 251, 9}, list(blob, blob), api.ErrBad)
	wantBinaryError(t, []byte{0, 0, 5, 5}, list(long, day), api.ErrShort)
	wantBinaryError(t, []byte{0, 0, 9, 5}, list(blob, day), api.ErrShort)
	wantBinaryError(t, []byte{0, 0, 4, 234, 7, 13}, list(day, long), api.ErrShort)
	wantBinaryError(t, []byte{0, 0, 1, 0, 0, 0, 5}, list(long, day), api.ErrBad)
	wantBinaryError(t, []byte{0, 0, 1, 0, 0, 0}, list(long, day), api.ErrShort)
	wantBinaryError(t, []byte{0, 0, 1, 0, 0, 0, 0, 5}, list(long, day), api.ErrBad)
	wantBinary(t, []byte{0, 4, 4, 234, 7, 12, 1}, list(long, day), list(api.Value{}, date(api.When{Year: 2026, Month: 12, Day: 1})))
}

// TestP17_2Unknown has types that are not known, at each place, with bytes that are right and wrong.
func TestP17_2Unknown(t *testing.T) {
	row, types, put, _ := across(samples())
	right := join(make([]byte, 1+(len(row)+9)/8), put)
	for _, of := range unknownTypes() {
		for _, b := range [][]byte{nil, {0}, {1}, {0, 0}, {0, 1}, {0, 4}, {0, 0, 0}} {
			wantBinaryError(t, b, list(of), api.ErrArg)
			wantBinaryError(t, b, list(typed(api.TypeTiny), of), api.ErrArg)
			wantBinaryError(t, b, list(typed(api.TypeFloat), of), api.ErrArg)
		}
		wantBinaryRefused(t, list(text("a")), list(of), api.ErrArg)
	}
	for i := range types {
		wantBinaryError(t, right, with(types, i, typed(14)), api.ErrArg)
		wantBinaryError(t, right[1:], with(types, i, unsigned(244)), api.ErrArg)
	}
}

// TestP17_2Nothing has no bytes at all.
func TestP17_2Nothing(t *testing.T) {
	for _, b := range [][]byte{nil, {}} {
		wantBinaryError(t, b, nil, api.ErrShort)
		wantBinaryError(t, b, list(typed(api.TypeNull)), api.ErrShort)
		for _, of := range knownTypes() {
			wantBinaryError(t, b, list(of), api.ErrShort)
		}
	}
}

// TestP17_2LongerForms has values that have more bytes than they need.
func TestP17_2LongerForms(t *testing.T) {
	types := list(typed(api.TypeBlob), typed(api.TypeDate), typed(api.TypeTime))
	b := []byte{0, 0, 252, 1, 0, 'a', 4, 0, 0, 0, 0, 8, 0, 0, 0, 0, 0, 0, 0, 0}
	wantBinary(t, b, types, list(text("a"), date(api.When{}), span(api.When{})))
	wantTurned(t, b, types, join([]byte("\x01a\x0a0000-00-00"), []byte("\x0800:00:00")), api.OK)
}

// TestP17_2Longest has texts of 2^24 bytes and of one more, and turns them.
func TestP17_2Longest(t *testing.T) {
	long := climbing(1, 1<<24+1)
	types := list(typed(api.TypeLongBlob), typed(api.TypeTiny))
	put := join([]byte{254, 0, 0, 0, 1, 0, 0, 0, 0}, []byte(long[:1<<24]))
	whole := join([]byte{0, 8}, put)
	wantBinaryRow(t, list(text(long[:1<<24]), api.Value{}), types, whole)
	wantTurned(t, whole, types, join(put, []byte{251}), api.OK)
	more := join([]byte{0, 8, 254, 1, 0, 0, 1, 0, 0, 0, 0}, []byte(long))
	wantBinaryError(t, more, types, api.ErrBad)
	wantBinaryError(t, more[:len(more)-1], types, api.ErrShort)
}

// TestP17_2Drawn holds drawn rows and bytes against a plain reading, turned too.
func TestP17_2Drawn(t *testing.T) {
	r := rand.New(rand.NewSource(172))
	for range 20_000 {
		x := drawnRow(r)
		want, wantE := plainAppendBinary([]byte{9}, x.row, x.types)
		if got, e := row.AppendBinary([]byte{9}, x.row, x.types); !bytes.Equal(got, want) || e != wantE {
			t.Fatalf("AppendBinary of %s as %s: %s, %v, want %s, %v", brief(x.row), brief(x.types), brief(got), e, brief(want), wantE)
		}
		b, _ := plainAppendBinary(nil, x.row, x.types)
		wantPlainBinary(t, spoilt(r, b), x.types)
	}
}

// TestP17_3Samples turns each kind that has a text, alone, beside a Null, and all in one row.
func TestP17_3Samples(t *testing.T) {
	for _, x := range told() {
		wantTurned(t, join([]byte{0, 0}, x.put), list(x.of), counted(x.text), api.OK)
		wantTurned(t, join([]byte{0, 4}, x.put), list(x.of, x.of), join([]byte{251}, counted(x.text)), api.OK)
		wantTurned(t, join([]byte{0, 8}, x.put), list(x.of, x.of), join(counted(x.text), []byte{251}), api.OK)
	}
	row, types, put, texts := across(told())
	wantTurned(t, join(make([]byte, 1+(len(row)+9)/8), put), types, texts, api.OK)
}

// TestP17_3Nulls turns Nulls of every type that has texts, of TypeNull too.
func TestP17_3Nulls(t *testing.T) {
	for _, of := range knownTypes() {
		if of.Type == api.TypeFloat || of.Type == api.TypeDouble {
			continue
		}
		wantTurned(t, []byte{0, 4}, list(of), []byte{251}, api.OK)
		wantTurned(t, []byte{0, 252, 1}, times(of, 7), times(byte(251), 7), api.OK)
	}
	wantTurned(t, []byte{0, 0}, nil, nil, api.OK)
	all := times(typed(api.TypeNull), 4096)
	wantTurned(t, join([]byte{0, 252}, times(byte(255), 511), []byte{3}), all, times(byte(251), 4096), api.OK)
}

// TestP17_3Floats has types without texts, with bytes that are right, with bytes that are wrong, and with Nulls.
func TestP17_3Floats(t *testing.T) {
	for _, x := range floatSamples() {
		put := join([]byte{0, 0}, x.put)
		wantBinary(t, put, list(x.of), list(x.v))
		wantTurned(t, put, list(x.of), nil, api.ErrArg)
		wantTurned(t, []byte{0, 4}, list(x.of), nil, api.ErrArg)
		tiny := typed(api.TypeTiny)
		wantTurned(t, []byte{0, 8, 1}, list(tiny, x.of), nil, api.ErrArg)
		wantTurned(t, []byte{0, 4, 1}, list(x.of, tiny), nil, api.ErrArg)
		wantTurned(t, join(put, []byte{1}), list(x.of, tiny), nil, api.ErrArg)

		wantTurned(t, nil, list(x.of), nil, api.ErrShort)
		wantTurned(t, put[:len(put)-1], list(x.of), nil, api.ErrShort)
		wantTurned(t, put, list(x.of, tiny), nil, api.ErrShort)
		wantTurned(t, join(put, []byte{0}), list(x.of), nil, api.ErrBad)
		wantTurned(t, []byte{0, 4, 0}, list(x.of), nil, api.ErrBad)
		wantTurned(t, []byte{0, 5}, list(x.of), nil, api.ErrBad)
		wantTurned(t, []byte{1, 4}, list(x.of), nil, api.ErrBad)
		wantTurned(t, []byte{0, 4, 5}, list(x.of, typed(api.TypeDate)), nil, api.ErrBad)
		wantTurned(t, []byte{0, 4}, list(x.of, typed(api.TypeNull)), nil, api.ErrBad)
		wantTurned(t, []byte{0, 4}, list(x.of, typed(14)), nil, api.ErrArg)
		wantTurned(t, []byte{0, 4}, times(x.of, 4097), nil, api.ErrLong)
	}
}

// TestP17_3Growing has a text row that has far more bytes than the binary one.
func TestP17_3Growing(t *testing.T) {
	const most = 4096
	b := make([]byte, 514+most)
	types := times(typed(api.TypeDateTime), most)
	wantTurned(t, b, types, bytes.Repeat([]byte("\x130000-00-00 00:00:00"), most), api.OK)
}

// TestP17_4ReadBack has what was appended, cut at every place and with a byte more.
func TestP17_4ReadBack(t *testing.T) {
	for _, l := range textRows() {
		b, e := row.AppendText(nil, l)
		if e != api.OK {
			t.Fatalf("AppendText of %s: %v", brief(l), e)
		}
		wantText(t, b, len(l), l)
		for _, end := range places(b) {
			wantTextError(t, b[:end], len(l), api.ErrShort)
		}
		for _, x := range []byte{0, 1, 4, 250, 251, 252, 254, 255} {
			wantTextError(t, join(b, []byte{x}), len(l), api.ErrBad)
		}
	}
	for _, x := range binaryRows() {
		b, e := row.AppendBinary(nil, x.row, x.types)
		if e != api.OK {
			t.Fatalf("AppendBinary of %s as %s: %v", brief(x.row), brief(x.types), e)
		}
		wantBinary(t, b, x.types, x.row)
		for _, end := range places(b) {
			wantBinaryError(t, b[:end], x.types, api.ErrShort)
		}
		for _, more := range []byte{0, 1, 251, 255} {
			wantBinaryError(t, join(b, []byte{more}), x.types, api.ErrBad)
		}
	}
}

// places are all places ahead of b's end; of a long b those about its ends.
func places(b []byte) []int {
	var l []int
	for i := range b {
		if i < 700 || i > len(b)-700 {
			l = append(l, i)
		}
	}
	return l
}

// TestP17_4TurnedNulls are just where the row's are.
func TestP17_4TurnedNulls(t *testing.T) {
	for _, x := range binaryRows() {
		b, _ := row.AppendBinary(nil, x.row, x.types)
		if slices.ContainsFunc(x.types, func(of api.Typed) bool { return of.Type == api.TypeFloat || of.Type == api.TypeDouble }) {
			wantTurned(t, b, x.types, nil, api.ErrArg)
			continue
		}
		wantNulls(t, b, x)
	}
	l, types, _, _ := across(told()[:9])
	for bits := range 1 << 9 {
		x := binaryRow{slices.Clone(l), types}
		for i := range l {
			if bits>>i&1 == 1 {
				x.row[i] = api.Value{}
			}
		}
		b, _ := row.AppendBinary(nil, x.row, x.types)
		wantNulls(t, b, x)
	}
}

func wantNulls(t *testing.T, b []byte, x binaryRow) {
	t.Helper()
	turned, e := row.Turned(b, x.types)
	if e != api.OK {
		t.Errorf("Turned of %s as %s: %v", brief(b), brief(x.types), e)
		return
	}
	got, e := row.ReadText(turned, len(x.types))
	if e != api.OK || len(got) != len(x.row) {
		t.Errorf("ReadText of %s: %s, %v", brief(turned), brief(got), e)
		return
	}
	for i, v := range got {
		if (v == api.Value{}) != (x.row[i] == api.Value{}) || v.Kind != api.ValueNull && v != text(v.Text) {
			t.Errorf("column %d of %s turned: %s", i, brief(x.row), brief(v))
		}
	}
}

// TestT6AnyBytes has all short bytes of few values, of many kinds of rows: every call ends, and answers as the chapter reads.
func TestT6AnyBytes(t *testing.T) {
	rows := [][]api.Typed{nil, list(typed(api.TypeTiny)), list(typed(api.TypeNull)), list(typed(api.TypeDate)), list(typed(api.TypeTime), typed(api.TypeBlob)), list(typed(api.TypeBlob), unsigned(api.TypeTiny)), list(typed(api.TypeFloat)), times(typed(api.TypeTiny), 7), list(typed(14))}
	var grow func(b []byte)
	grow = func(b []byte) {
		for _, types := range rows {
			wantPlainBinary(t, b, types)
		}
		for n := -1; n < 4; n++ {
			wantPlainText(t, b, n)
		}
		if len(b) < 4 {
			for _, x := range []byte{0, 1, 2, 4, 8, 12, 128, 251, 252, 255} {
				grow(join(b, []byte{x}))
			}
		}
	}
	grow(nil)
	long := strings.Repeat("\xfb\x00\xff", 2000)
	for n := range 20 {
		wantPlainText(t, []byte(long), n)
		wantPlainBinary(t, []byte(long)[n:], times(typed(api.TypeTiny), n))
	}
}
