package param_test

import (
	"bytes"
	"math"
	"math/rand"
	"slices"
	"testing"

	"sluicegate/api"
	"sluicegate/param"
)

// heads are what stands in front where something is appended.
var heads = [][]byte{nil, {}, {7}, {255, 0, 251}}

// both is bound, and not.
var both = []bool{true, false}

// wantData asks that a list has this data, and is read back from it.
func wantData(t *testing.T, l []api.Param, bound bool, want []byte) {
	t.Helper()
	for _, b := range heads {
		if got, e := param.Append(b, l, bound); !bytes.Equal(got, join(b, want)) || e != api.OK {
			t.Errorf("Append of %s, bound %v, behind %v: %s, %v, want %s", brief(l), bound, b, brief(got), e, brief(want))
		}
	}
	if bound {
		wantRead(t, want, len(l), nil, longOf(l), l, len(l) > 0)
	}
	wantRead(t, want, len(l), typesOf(l), longOf(l), l, bound && len(l) > 0)
}

// wantBoth asks for the data of a list that is bound, and that is not, of its bits, its types' bytes and its values'.
func wantBoth(t *testing.T, l []api.Param, bits, types, put []byte) {
	t.Helper()
	wantData(t, l, true, join(bits, []byte{1}, types, put))
	wantData(t, l, false, join(bits, []byte{0}, put))
}

// wantRefused asks that a list has no data, bound or not.
func wantRefused(t *testing.T, l []api.Param, want api.Errno) {
	t.Helper()
	for _, bound := range both {
		for _, b := range heads {
			if got, e := param.Append(b, l, bound); len(got) != 0 || e != want {
				t.Errorf("Append of %s, bound %v, behind %v: %s, %v, want %v", brief(l), bound, b, brief(got), e, want)
			}
		}
	}
}

func wantRead(t *testing.T, b []byte, n int, types []api.Typed, long []bool, want []api.Param, wantBound bool) {
	t.Helper()
	if got, bound, e := param.Read(b, n, types, long); !slices.Equal(got, want) || bound != wantBound || e != api.OK {
		t.Errorf("Read of %s, %d, %s, %s: %s, %v, %v, want %s, %v", brief(b), n, brief(types), brief(long), brief(got), bound, e, brief(want), wantBound)
	}
}

func wantError(t *testing.T, b []byte, n int, types []api.Typed, long []bool, want api.Errno) {
	t.Helper()
	if got, bound, e := param.Read(b, n, types, long); len(got) != 0 || bound || e != want {
		t.Errorf("Read of %s, %d, %s, %s: %s, %v, %v, want %v", brief(b), n, brief(types), brief(long), brief(got), bound, e, want)
	}
}

// wantPlain asks that bytes are read as the chapter reads them.
func wantPlain(t *testing.T, b []byte, n int, types []api.Typed, long []bool) {
	t.Helper()
	want, wantBound, wantE := plainRead(b, n, types, long)
	if got, bound, e := param.Read(b, n, types, long); !slices.Equal(got, want) || bound != wantBound || e != wantE {
		t.Errorf("Read of %s, %d, %s, %s: %s, %v, %v, want %s, %v, %v", brief(b), n, brief(types), brief(long), brief(got), bound, e, brief(want), wantBound, wantE)
	}
}

func TestExamples(t *testing.T) {
	seven := given(typed(api.TypeLong), integer(7))
	wantData(t, list(seven), true, []byte{0, 1, 3, 0, 7, 0, 0, 0})
	wantData(t, list(null(typed(api.TypeLong)), long(typed(api.TypeVarString))), false, []byte{1, 0})
	wantRead(t, []byte{0, 0, 7, 0, 0, 0}, 1, list(typed(api.TypeLong)), nil, list(seven), false)
	wantError(t, []byte{0, 0, 7, 0, 0, 0}, 1, nil, nil, api.ErrBad)
	wantRead(t, nil, 0, nil, nil, nil, false)
	wantError(t, []byte{0}, 0, nil, nil, api.ErrBad)
	wantError(t, []byte{2, 1, 3, 0}, 1, nil, nil, api.ErrBad)
}

// TestP18_1Written has data that was written out by hand.
func TestP18_1Written(t *testing.T) {
	text7 := given(typed(api.TypeVarString), text("seven"))
	wantData(t, list(text7), true, []byte("\x00\x01\xfd\x00\x05seven"))
	wantData(t, list(text7), false, []byte("\x00\x00\x05seven"))
	three := list(given(unsigned(api.TypeShort), natural(258)), null(typed(api.TypeDate)), long(unsigned(api.TypeBlob)))
	wantData(t, three, true, []byte{2, 1, 2, 128, 10, 0, 252, 128, 2, 1})
	wantData(t, three, false, []byte{2, 0, 2, 1})
	last := list(long(typed(api.TypeBlob)), null(typed(api.TypeNull)), tiny(-1))
	wantData(t, last, true, []byte{2, 1, 252, 0, 6, 0, 1, 0, 255})
	wantData(t, last, false, []byte{2, 0, 255})
}

// TestP18_1Nothing is of no parameters, bound or not.
func TestP18_1Nothing(t *testing.T) {
	for _, bound := range both {
		wantData(t, nil, bound, nil)
		wantData(t, []api.Param{}, bound, nil)
	}
}

// TestP18_1Samples has each kind alone, between Null and Long ones, and all in one list.
func TestP18_1Samples(t *testing.T) {
	for _, x := range samples() {
		of := x.p.Typed
		two := typeBytes(of)
		wantBoth(t, list(x.p), []byte{0}, two, x.put)
		wantBoth(t, list(null(of), x.p, long(of), x.p), []byte{1}, bytes.Repeat(two, 4), join(x.put, x.put))
		wantBoth(t, list(long(of), x.p, null(of)), []byte{4}, bytes.Repeat(two, 3), x.put)
	}
	l, types, put := across(samples())
	wantBoth(t, l, make([]byte, (len(l)+7)/8), types, put)
	for _, l := range lists() {
		for _, bound := range both {
			want, _ := plainAppend(nil, l, bound)
			wantData(t, l, bound, want)
		}
	}
}

// TestP18_1NullAndLong may be of each known type, with a sign and without, and of no other.
func TestP18_1NullAndLong(t *testing.T) {
	for _, of := range knownTypes() {
		two := typeBytes(of)
		wantBoth(t, list(null(of)), []byte{1}, two, nil)
		wantBoth(t, list(long(of)), []byte{0}, two, nil)
		wantBoth(t, list(tiny(5), null(of), long(of)), []byte{2}, join([]byte{1, 0}, two, two), []byte{5})
	}
	for _, of := range unknownTypes() {
		for _, p := range list(null(of), long(of), given(of, text("a")), given(of, integer(1))) {
			wantRefused(t, list(p), api.ErrArg)
			wantRefused(t, list(tiny(5), p), api.ErrArg)
		}
	}
}

// bitRows are where one parameter's bit stands among so many parameters, as it was written out by hand.
var bitRows = []struct {
	n, at int
	bits  []byte
}{
	{1, 0, []byte{1}},
	{2, 1, []byte{2}},
	{7, 0, []byte{1}}, {7, 6, []byte{64}},
	{8, 0, []byte{1}}, {8, 6, []byte{64}}, {8, 7, []byte{128}},
	{9, 0, []byte{1, 0}}, {9, 7, []byte{128, 0}}, {9, 8, []byte{0, 1}},
	{15, 0, []byte{1, 0}}, {15, 7, []byte{128, 0}}, {15, 8, []byte{0, 1}}, {15, 14, []byte{0, 64}},
	{16, 0, []byte{1, 0}}, {16, 7, []byte{128, 0}}, {16, 8, []byte{0, 1}}, {16, 15, []byte{0, 128}},
	{17, 0, []byte{1, 0, 0}}, {17, 7, []byte{128, 0, 0}}, {17, 8, []byte{0, 1, 0}}, {17, 15, []byte{0, 128, 0}}, {17, 16, []byte{0, 0, 1}},
	{65_535, 0, join([]byte{1}, make([]byte, 8191))}, {65_535, 65_527, join(make([]byte, 8190), []byte{128, 0})}, {65_535, 65_534, join(make([]byte, 8191), []byte{64})},
}

// TestP18_1OneBit has one Null, and in its place a Long one, with tiny numbers beside it.
func TestP18_1OneBit(t *testing.T) {
	for _, x := range bitRows {
		types, put := bytes.Repeat([]byte{1, 0}, x.n), times(byte(7), x.n-1)
		l := times(tiny(7), x.n)
		none := make([]byte, len(x.bits))
		wantBoth(t, with(l, x.at, null(typed(api.TypeTiny))), x.bits, types, put)
		wantBoth(t, with(l, x.at, long(typed(api.TypeTiny))), none, types, put)
		types[2*x.at] = api.TypeNull
		wantBoth(t, with(l, x.at, null(typed(api.TypeNull))), x.bits, types, put)
		wantBoth(t, with(l, x.at, long(typed(api.TypeNull))), none, types, put)
	}
}

// TestP18_1ManyBits has Nulls alone, none, and Null and Long ones on both sides of a byte's end.
func TestP18_1ManyBits(t *testing.T) {
	of := typed(api.TypeTiny)
	for _, x := range []struct {
		n    int
		bits []byte
	}{
		{1, []byte{1}}, {7, []byte{127}}, {8, []byte{255}}, {9, []byte{255, 1}}, {15, []byte{255, 127}}, {16, []byte{255, 255}}, {17, []byte{255, 255, 1}},
	} {
		types, none := bytes.Repeat([]byte{1, 0}, x.n), make([]byte, len(x.bits))
		wantBoth(t, times(null(of), x.n), x.bits, types, nil)
		wantBoth(t, times(long(of), x.n), none, types, nil)
		wantBoth(t, times(tiny(-1), x.n), none, types, times(byte(255), x.n))
	}
	types := bytes.Repeat([]byte{1, 0}, 17)
	l := with(with(times(tiny(3), 17), 7, null(of)), 8, null(of))
	wantBoth(t, l, []byte{128, 1, 0}, types, times(byte(3), 15))
	l = with(with(times(tiny(3), 17), 7, null(of)), 8, long(of))
	wantBoth(t, l, []byte{128, 0, 0}, types, times(byte(3), 15))
	l = with(with(times(tiny(3), 17), 7, long(of)), 8, null(of))
	wantBoth(t, l, []byte{0, 1, 0}, types, times(byte(3), 15))
	l = with(with(l, 15, null(of)), 16, long(of))
	wantBoth(t, l, []byte{0, 129, 0}, types, times(byte(3), 13))
	l = with(with(l, 15, long(of)), 16, null(of))
	wantBoth(t, l, []byte{0, 1, 1}, types, times(byte(3), 13))
}

// TestP18_1Most has as many parameters as may be, and more.
func TestP18_1Most(t *testing.T) {
	const most = 65_535
	of := typed(api.TypeTiny)
	types, none := bytes.Repeat([]byte{1, 0}, most), make([]byte, 8192)
	wantBoth(t, times(tiny(9), most), none, types, times(byte(9), most))
	wantBoth(t, times(null(of), most), join(times(byte(255), 8191), []byte{127}), types, nil)
	wantBoth(t, times(long(of), most), none, types, nil)
	for _, n := range []int{most + 1, most + 2, 2 * most} {
		wantRefused(t, times(tiny(9), n), api.ErrLong)
		wantRefused(t, times(null(of), n), api.ErrLong)
		wantRefused(t, times(long(of), n), api.ErrLong)
	}
}

// TestP18_1LongAheadOfWrong has too many parameters, of which one is wrong, or all are.
func TestP18_1LongAheadOfWrong(t *testing.T) {
	const n = 65_536
	wrong := given(typed(api.TypeTiny), integer(128))
	for _, at := range []int{0, 1, 65_534, 65_535} {
		wantRefused(t, with(times(tiny(9), n), at, wrong), api.ErrLong)
		wantRefused(t, with(times(tiny(9), n), at, null(typed(14))), api.ErrLong)
	}
	wantRefused(t, times(null(typed(14)), n), api.ErrLong)
	for _, at := range []int{0, 1, 65_534} {
		wantRefused(t, with(times(tiny(9), n-1), at, wrong), api.ErrArg)
		wantRefused(t, with(times(tiny(9), n-1), at, null(typed(14))), api.ErrArg)
	}
}

// TestP18_1Refused has types that are not known, values that may not be of their type, and Long ones that have a value, at each place.
func TestP18_1Refused(t *testing.T) {
	for _, of := range allTypes() {
		for _, v := range wrongOf(of) {
			wantRefused(t, list(given(of, v)), api.ErrArg)
			wantRefused(t, list(api.Param{Typed: of, Long: true, Value: v}), api.ErrArg)
		}
	}
	l, _, _ := across(samples())
	for i, p := range l {
		wantRefused(t, with(l, i, given(typed(14), p.Value)), api.ErrArg)
		wantRefused(t, with(l, i, null(unsigned(17))), api.ErrArg)
		wantRefused(t, with(l, i, long(typed(244))), api.ErrArg)
		wantRefused(t, with(l, i, given(typed(api.TypeNull), p.Value)), api.ErrArg)
		wantRefused(t, with(l, i, api.Param{Typed: p.Typed, Long: true, Value: p.Value}), api.ErrArg)
		for _, v := range wrongOf(p.Typed) {
			wantRefused(t, with(l, i, given(p.Typed, v)), api.ErrArg)
		}
	}
	wantRefused(t, list(given(typed(api.TypeTiny), integer(128))), api.ErrArg)
	wantRefused(t, list(given(typed(api.TypeTiny), natural(1))), api.ErrArg)
	wantRefused(t, list(given(unsigned(api.TypeTiny), integer(1))), api.ErrArg)
	wantRefused(t, list(given(unsigned(api.TypeTiny), natural(256))), api.ErrArg)
	wantRefused(t, list(given(typed(api.TypeTime), span(api.When{Neg: true}))), api.ErrArg)
	wantRefused(t, list(given(typed(api.TypeBlob), text(climbing(0, 1<<24+1)))), api.ErrArg)
}

// TestP18_1TypeNull has Null, and Long ones, and no other value.
func TestP18_1TypeNull(t *testing.T) {
	for _, of := range list(typed(api.TypeNull), unsigned(api.TypeNull)) {
		wantBoth(t, list(null(of)), []byte{1}, typeBytes(of), nil)
		wantBoth(t, list(long(of)), []byte{0}, typeBytes(of), nil)
		for _, v := range wrongOf(of) {
			wantRefused(t, list(given(of, v)), api.ErrArg)
			wantRefused(t, list(api.Param{Typed: of, Long: true, Value: v}), api.ErrArg)
		}
	}
}

// TestP18_1Longest has a text of 2^24 bytes, and is read back; one more can't be read.
func TestP18_1Longest(t *testing.T) {
	more := climbing(1, 1<<24+1)
	of := typed(api.TypeLongBlob)
	put := join([]byte{254, 0, 0, 0, 1, 0, 0, 0, 0}, []byte(more[:1<<24]))
	wantBoth(t, list(given(of, text(more[:1<<24])), null(of)), []byte{2}, []byte{251, 0, 251, 0}, put)
	b := join([]byte{0, 0, 254, 1, 0, 0, 1, 0, 0, 0, 0}, []byte(more))
	wantError(t, b, 1, list(of), nil, api.ErrBad)
	wantError(t, b[:len(b)-1], 1, list(of), nil, api.ErrShort)
}

// TestP18_2HowMany has counts of parameters that may be, and such that may not, with bytes that are right and wrong.
func TestP18_2HowMany(t *testing.T) {
	for _, n := range []int{-1, -2, -65_535, math.MinInt64, 65_536, 65_537, 1 << 20, math.MaxInt32, math.MaxInt64} {
		for _, b := range [][]byte{nil, {}, {0}, {0, 0}, {255, 255}, make([]byte, 80_000)} {
			wantError(t, b, n, nil, nil, api.ErrArg)
			wantError(t, b, n, list(typed(14)), list(true), api.ErrArg)
		}
	}
	const most = 65_535
	nulls := join(times(byte(255), 8191), []byte{127})
	types := times(typed(api.TypeTiny), most)
	wantRead(t, join(nulls, []byte{0}), most, types, nil, times(null(typed(api.TypeTiny)), most), false)
	wantError(t, join(nulls, []byte{0}), most, types[1:], nil, api.ErrBad)
	wantError(t, nulls, most, types, nil, api.ErrShort)
	wantError(t, times(byte(255), 8192), most, types, nil, api.ErrBad)
	wantError(t, nil, most, nil, nil, api.ErrShort)
}

// TestP18_2None is of no parameters: nothing may be there, whatever the types and the Long ones are.
func TestP18_2None(t *testing.T) {
	for _, types := range [][]api.Typed{nil, {}, list(typed(api.TypeTiny)), list(typed(14)), times(typed(api.TypeNull), 9)} {
		for _, is := range [][]bool{nil, {}, {true}, {false, true}} {
			wantRead(t, nil, 0, types, is, nil, false)
			wantRead(t, []byte{}, 0, types, is, nil, false)
			for x := range 256 {
				wantError(t, []byte{byte(x)}, 0, types, is, api.ErrBad)
				wantError(t, []byte{0, byte(x)}, 0, types, is, api.ErrBad)
			}
		}
	}
}

// TestP18_2Bits has each bit of up to 26 parameters: a parameter's is its Null, all others, and those of Long ones, are wrong, be the rest there or not.
func TestP18_2Bits(t *testing.T) {
	for n := 1; n <= 26; n++ {
		types := times(typed(api.TypeTiny), n)
		size := (n + 7) / 8
		for bit := range 8 * size {
			bits := make([]byte, size)
			bits[bit/8] = 1 << (bit % 8)
			whole := join(bits, []byte{0}, times(byte(3), n))
			told := join(bits, []byte{1}, bytes.Repeat([]byte{1, 0}, n), times(byte(3), n))
			if bit >= n {
				wantWrongBits(t, bits, n, types, nil)
				continue
			}
			want := with(times(tiny(3), n), bit, null(typed(api.TypeTiny)))
			wantRead(t, whole[:len(whole)-1], n, types, nil, want, false)
			wantRead(t, told[:len(told)-1], n, nil, nil, want, true)
			wantError(t, whole, n, types, nil, api.ErrBad)
			wantError(t, told, n, nil, nil, api.ErrBad)
			is := make([]bool, n)
			is[bit] = true
			wantWrongBits(t, bits, n, types, is)
			wantWrongBits(t, bits, n, types, is[:bit+1])
			wantWrongBits(t, bits, n, types, times(true, n+3))
		}
	}
}

// wantWrongBits asks that bits are wrong as soon as all of them are there.
func wantWrongBits(t *testing.T, bits []byte, n int, types []api.Typed, is []bool) {
	t.Helper()
	for _, behind := range [][]byte{nil, {0}, {1}, {2}, {255}, join([]byte{0}, times(byte(3), n)), join([]byte{1}, bytes.Repeat([]byte{1, 0}, n)), join([]byte{1}, bytes.Repeat([]byte{1, 0}, n), times(byte(3), n))} {
		wantError(t, join(bits, behind), n, types, is, api.ErrBad)
		wantError(t, join(bits, behind), n, nil, is, api.ErrBad)
	}
	wantError(t, bits[:len(bits)-1], n, types, is, api.ErrShort)
}

// TestP18_2BoundByte has each byte behind the bits, with nothing behind it, too little, and all.
func TestP18_2BoundByte(t *testing.T) {
	types := list(typed(api.TypeTiny), typed(api.TypeTiny))
	told := []byte{1, 0, 1, 0}
	for x := range 256 {
		for _, bits := range []byte{0, 1, 2, 3} {
			for _, behind := range [][]byte{nil, {5}, {5, 6}, {5, 6, 7}, told, join(told, []byte{5}), join(told, []byte{5, 6}), join(told, []byte{5, 6, 7})} {
				b := join([]byte{bits, byte(x)}, behind)
				wantPlain(t, b, 2, types, nil)
				wantPlain(t, b, 2, nil, list(false, bits < 2))
				if x > 1 {
					wantError(t, b, 2, types, nil, api.ErrBad)
				}
			}
		}
	}
	wantRead(t, []byte{0, 0, 5, 6}, 2, types, nil, list(tiny(5), tiny(6)), false)
	wantRead(t, []byte{0, 1, 1, 0, 1, 0, 5, 6}, 2, nil, nil, list(tiny(5), tiny(6)), true)
	wantError(t, []byte{0}, 2, types, nil, api.ErrShort)
}

// TestP18_2ToldTypes has each type, and each byte behind one, at the first place and at the last, with bytes behind it and without.
func TestP18_2ToldTypes(t *testing.T) {
	for x := range 256 {
		of, known := byte(x), isKnown(byte(x))
		for _, behind := range [][]byte{nil, {0}, {128}, {0, 1, 0}, {7}} {
			b := join([]byte{3, 1, of}, behind)
			wantPlain(t, b, 2, nil, nil)
			if !known {
				wantError(t, b, 2, nil, nil, api.ErrBad)
				wantError(t, join([]byte{3, 1, 1, 0, of}, behind), 2, nil, nil, api.ErrBad)
			}
		}
		if known {
			wantError(t, []byte{3, 1, of}, 2, nil, nil, api.ErrShort)
			wantError(t, []byte{3, 1, of, 0}, 2, nil, nil, api.ErrShort)
			wantError(t, []byte{3, 1, 1, 0, of}, 2, nil, nil, api.ErrShort)
			wantRead(t, []byte{3, 1, of, 128, of, 0}, 2, nil, nil, list(null(unsigned(of)), null(typed(of))), true)
		}
		sign := byte(x)
		if sign != 0 && sign != 128 {
			wantError(t, []byte{3, 1, 1, sign}, 2, nil, nil, api.ErrBad)
			wantError(t, []byte{3, 1, 1, sign, 1, 0}, 2, nil, nil, api.ErrBad)
			wantError(t, []byte{3, 1, 1, 0, 1, sign}, 2, nil, nil, api.ErrBad)
			wantError(t, []byte{0, 1, 1, sign, 14}, 2, nil, nil, api.ErrBad)
		}
	}
	wantRead(t, []byte{0, 1, 1, 128, 200}, 1, nil, nil, list(given(unsigned(api.TypeTiny), natural(200))), true)
	wantRead(t, []byte{0, 1, 1, 0, 200}, 1, nil, nil, list(tiny(-56)), true)
}

// TestP18_2TypesAhead has fewer types than parameters, none, as many and more, of which the first ones count.
func TestP18_2TypesAhead(t *testing.T) {
	of := typed(api.TypeTiny)
	for n := 1; n <= 17; n++ {
		b := join(make([]byte, (n+7)/8), []byte{0}, times(byte(3), n))
		wantRead(t, b, n, times(of, n), nil, times(tiny(3), n), false)
		for fewer := range n {
			wantError(t, b, n, times(of, fewer), nil, api.ErrBad)
			wantError(t, b[:len(b)-n], n, times(of, fewer), nil, api.ErrBad)
		}
		for _, other := range list(of, typed(14), unsigned(244), typed(api.TypeNull)) {
			wantRead(t, b, n, append(times(of, n), other), nil, times(tiny(3), n), false)
			wantRead(t, b, n, append(times(of, n), times(other, 70)...), nil, times(tiny(3), n), false)
		}
		for at := range n {
			for _, unknown := range []byte{14, 17, 128, 244} {
				wantError(t, b, n, with(times(of, n), at, typed(unknown)), nil, api.ErrBad)
				wantError(t, b[:len(b)-n], n, with(times(of, n), at, unsigned(unknown)), nil, api.ErrBad)
			}
		}
	}
	for _, of := range unknownTypes() {
		wantError(t, []byte{1, 0}, 1, list(of), nil, api.ErrBad)
		wantError(t, []byte{0, 0}, 1, list(of), list(true), api.ErrBad)
	}
	for _, of := range knownTypes() {
		wantRead(t, []byte{1, 0}, 1, list(of), nil, list(null(of)), false)
		wantRead(t, []byte{0, 0}, 1, list(of), list(true), list(long(of)), false)
	}
}

// TestP18_2BoundAsksNoTypes has types of all kinds where they are told anew.
func TestP18_2BoundAsksNoTypes(t *testing.T) {
	b := []byte{0, 1, 1, 0, 1, 128, 5, 250}
	want := list(tiny(5), given(unsigned(api.TypeTiny), natural(250)))
	wantRead(t, b, 2, nil, nil, want, true)
	for _, of := range allTypes() {
		for n := range 5 {
			wantRead(t, b, 2, times(of, n), nil, want, true)
		}
	}
}

// TestP18_2Long has lists of Long ones that are shorter, as long, longer and nothing.
func TestP18_2Long(t *testing.T) {
	of := typed(api.TypeTiny)
	types := times(of, 9)
	b := []byte{0, 0, 0, 1, 2, 3, 4, 5, 6, 7, 8, 9}
	whole := list(tiny(1), tiny(2), tiny(3), tiny(4), tiny(5), tiny(6), tiny(7), tiny(8), tiny(9))
	for _, is := range [][]bool{nil, {}, {false}, times(false, 9), append(times(false, 9), true, true), times(false, 70)} {
		wantRead(t, b, 9, types, is, whole, false)
	}
	for n := range 13 {
		want := slices.Concat(times(long(of), min(n, 9)), whole[min(n, 9):])
		wantRead(t, join(b[:3], b[3+min(n, 9):]), 9, types, times(true, n), want, false)
	}
	for at := range 9 {
		is := make([]bool, at+1)
		is[at] = true
		wantRead(t, join(b[:3+at], b[4+at:]), 9, types, is, with(whole, at, long(of)), false)
		wantError(t, b, 9, types, is, api.ErrBad)
	}
}

// TestP18_2TypeNull has parameters of TypeNull that are Null, Long, or neither, with something behind them and with nothing.
func TestP18_2TypeNull(t *testing.T) {
	tinyType := typed(api.TypeTiny)
	for _, of := range list(typed(api.TypeNull), unsigned(api.TypeNull)) {
		two := typeBytes(of)
		wantRead(t, []byte{1, 0}, 1, list(of), nil, list(null(of)), false)
		wantRead(t, []byte{0, 0}, 1, list(of), list(true), list(long(of)), false)
		wantRead(t, join([]byte{1, 1}, two), 1, nil, nil, list(null(of)), true)
		wantRead(t, join([]byte{0, 1}, two), 1, nil, list(true), list(long(of)), true)
		wantError(t, []byte{1, 0}, 1, list(of), list(true), api.ErrBad)
		for _, behind := range [][]byte{nil, {0}, {5}, {5, 0}, {251}} {
			wantError(t, join([]byte{0, 0}, behind), 1, list(of), nil, api.ErrBad)
			wantError(t, join([]byte{0, 1}, two, behind), 1, nil, nil, api.ErrBad)
			wantError(t, join([]byte{0, 0}, behind), 2, list(of, tinyType), nil, api.ErrBad)
			wantError(t, join([]byte{0, 1}, two, []byte{1, 0}, behind), 2, nil, nil, api.ErrBad)
		}
		wantError(t, join([]byte{0, 1}, two), 2, nil, nil, api.ErrShort)
		wantError(t, join([]byte{0, 1}, two, []byte{1}), 2, nil, nil, api.ErrShort)
		wantRead(t, []byte{2, 0, 5}, 2, list(tinyType, of), nil, list(tiny(5), null(of)), false)
		wantRead(t, []byte{0, 0, 5}, 2, list(of, tinyType), list(true), list(long(of), tiny(5)), false)
	}
}

// TestP18_2TypeNullBehind has one of TypeNull that is neither Null nor Long behind values of each kind: it is told where it is reached, so that b which ends within a value ahead of it is ErrShort.
func TestP18_2TypeNullBehind(t *testing.T) {
	for _, of := range list(typed(api.TypeNull), unsigned(api.TypeNull)) {
		for _, x := range samples() {
			wantToldAt(t, list(x.p, null(of)), 1, x.put)
			wantToldAt(t, list(x.p, null(of), x.p), 1, x.put)
			wantToldAt(t, list(x.p, x.p, null(of)), 2, join(x.put, x.put))
			wantToldAt(t, list(x.p, null(x.p.Typed), long(of), null(of), null(of)), 3, x.put)
		}
		for n := 1; n <= 17; n++ {
			wantToldAt(t, append(times(tiny(7), n), null(of)), n, times(byte(7), n))
			wantToldAt(t, append(times(null(of), n), null(of), tiny(7)), n, nil)
			wantToldAt(t, append(times(long(of), n), null(of), tiny(7)), n, nil)
		}
	}
}

// wantToldAt asks that a list whose Null at a place has no bit is ErrBad, and ErrShort wherever b ends within the values ahead of that place, which are put.
func wantToldAt(t *testing.T, l []api.Param, at int, put []byte) {
	t.Helper()
	n, types, is := len(l), typesOf(l), longOf(l)
	for _, bound := range both {
		b, e := param.Append(nil, l, bound)
		if e != api.OK {
			t.Fatalf("Append of %s: %v", brief(l), e)
		}
		b[at/8] &^= 1 << (at % 8)
		ahead := (n+7)/8 + 1
		if bound {
			ahead += 2 * n
		}
		for end := range len(b) + 1 {
			want := api.ErrShort
			if end >= ahead+len(put) {
				want = api.ErrBad
			}
			wantError(t, b[:end], n, types, is, want)
		}
		for _, x := range []byte{0, 1, 251} {
			wantError(t, join(b, []byte{x}), n, types, is, api.ErrBad)
		}
	}
}

// TestP18_2FromLeft has wrong values, and such that can't be, ahead of the place where b ends, and what would be one behind it.
func TestP18_2FromLeft(t *testing.T) {
	day, number, blob, none := typed(api.TypeDate), typed(api.TypeLong), typed(api.TypeBlob), typed(api.TypeNull)
	for _, x := range []struct {
		types []api.Typed
		put   []byte
		want  api.Errno
	}{
		{list(day, number), []byte{5}, api.ErrBad},
		{list(day, number), []byte{5, 1, 0}, api.ErrBad},
		{list(day, number), []byte{4, 234, 7, 13, 1}, api.ErrBad},
		{list(blob, blob), []byte{255, 9}, api.ErrBad},
		{list(blob, blob), []byte{251, 9}, api.ErrBad},
		{list(number, day), []byte{5, 5}, api.ErrShort},
		{list(blob, day), []byte{9, 5}, api.ErrShort},
		{list(day, number), []byte{4, 234, 7, 13}, api.ErrShort},
		{list(number, day), []byte{1, 0, 0, 0, 5}, api.ErrBad},
		{list(number, day), []byte{1, 0, 0, 0}, api.ErrShort},
		{list(number, day), []byte{1, 0, 0, 0, 0, 5}, api.ErrBad},
		{list(number, day), nil, api.ErrShort},
		{list(number, none), []byte{7, 0, 0}, api.ErrShort},
		{list(number, none), []byte{7, 0, 0, 0}, api.ErrBad},
		{list(day, none), []byte{4, 234, 7, 13}, api.ErrShort},
		{list(day, none), []byte{5}, api.ErrBad},
		{list(blob, none), []byte{252, 1}, api.ErrShort},
		{list(none, number), nil, api.ErrBad},
		{list(none, day), []byte{4, 1}, api.ErrBad},
	} {
		told := join(typeBytes(x.types[0]), typeBytes(x.types[1]))
		wantError(t, join([]byte{0, 0}, x.put), 2, x.types, nil, x.want)
		wantError(t, join([]byte{0, 1}, told, x.put), 2, nil, nil, x.want)
	}
}

// TestP18_2PartByPart has a fault at each part, cut behind it, where it is told, and ahead of it, where it is not.
func TestP18_2PartByPart(t *testing.T) {
	bits, types := []byte{4, 0}, join([]byte{10, 0, 1, 128}, bytes.Repeat([]byte{1, 0}, 7))
	right := join(bits, []byte{1}, types, []byte{4, 234, 7, 1, 1, 9, 3, 3, 3, 3, 3})
	n, is := 9, []bool{false, false, false, true}
	if l, bound, e := param.Read(right, n, nil, is); len(l) != n || !bound || e != api.OK {
		t.Fatalf("as it should be: %s, %v, %v", brief(l), bound, e)
	}
	for _, x := range []struct {
		at   int
		turn byte
	}{
		{0, 8}, {1, 2}, {1, 128}, {2, 2}, {2, 255}, {3, 14}, {4, 1}, {5, 17}, {6, 129}, {19, 244}, {20, 64}, {21, 5}, {24, 13},
	} {
		b := with(right, x.at, x.turn)
		told := max(x.at+1, len(bits))
		if x.at == 24 {
			told = 26
		}
		for end := range len(b) + 1 {
			want := api.ErrShort
			if end >= told {
				want = api.ErrBad
			}
			wantError(t, b[:end], n, nil, is, want)
		}
	}
}

// TestP18_2LongerForms has values that have more bytes than they need.
func TestP18_2LongerForms(t *testing.T) {
	l := list(given(typed(api.TypeBlob), text("a")), given(typed(api.TypeDate), date(api.When{})), given(typed(api.TypeTime), span(api.When{})))
	b := []byte{0, 0, 252, 1, 0, 'a', 4, 0, 0, 0, 0, 8, 0, 0, 0, 0, 0, 0, 0, 0}
	wantRead(t, b, 3, typesOf(l), nil, l, false)
	for end := range b {
		wantError(t, b[:end], 3, typesOf(l), nil, api.ErrShort)
	}
}

// TestP18_3ReadBack has what was appended, cut at every place and with a byte more.
func TestP18_3ReadBack(t *testing.T) {
	for _, l := range lists() {
		for _, bound := range both {
			b, e := param.Append(nil, l, bound)
			if e != api.OK {
				t.Fatalf("Append of %s: %v", brief(l), e)
			}
			n, types, is := len(l), typesOf(l), longOf(l)
			wantRead(t, b, n, types, is, l, bound && n > 0)
			for end := range b {
				wantError(t, b[:end], n, types, is, api.ErrShort)
			}
			for _, x := range []byte{0, 1, 4, 128, 251, 255} {
				wantError(t, join(b, []byte{x}), n, types, is, api.ErrBad)
			}
			if bound && n > 0 {
				wantRead(t, b, n, nil, is, l, true)
			}
		}
	}
}

// TestP18_3Most has as many parameters as may be, cut and lengthened.
func TestP18_3Most(t *testing.T) {
	all, _, _ := across(samples())
	var l []api.Param
	for len(l) < 65_535 {
		p := all[len(l)%len(all)]
		l = append(l, p, null(p.Typed), long(p.Typed))
	}
	for _, bound := range both {
		b, e := param.Append(nil, l, bound)
		if e != api.OK {
			t.Fatalf("Append of most: %v", e)
		}
		wantRead(t, b, len(l), typesOf(l), longOf(l), l, bound)
		for _, end := range []int{0, 1, 8191, 8192, 8193, 8194, len(b) / 2, len(b) - 1} {
			wantError(t, b[:end], len(l), typesOf(l), longOf(l), api.ErrShort)
		}
		wantError(t, join(b, []byte{0}), len(l), typesOf(l), longOf(l), api.ErrBad)
	}
}

// TestDrawn holds drawn parameters and bytes against a plain reading.
func TestDrawn(t *testing.T) {
	r := rand.New(rand.NewSource(18))
	refused, taken := 0, 0
	for range 60_000 {
		l, bound := drawnParams(r), r.Intn(2) == 0
		want, wantE := plainAppend([]byte{9}, l, bound)
		if got, e := param.Append([]byte{9}, l, bound); !bytes.Equal(got, want) || e != wantE {
			t.Fatalf("Append of %s, bound %v: %s, %v, want %s, %v", brief(l), bound, brief(got), e, brief(want), wantE)
		}
		b, _ := plainAppend(nil, l, bound)
		n := len(l) + []int{-1, 0, 0, 0, 0, 0, 0, 1}[r.Intn(8)]
		types, is := drawnTypes(r, l), drawnLong(r, l)
		b = spoilt(r, b)
		wantPlain(t, b, n, types, is)
		if _, _, e := plainRead(b, n, types, is); e == api.OK {
			taken++
		} else {
			refused++
		}
	}
	if taken < 5000 || refused < 5000 {
		t.Errorf("too few of one kind were drawn: %d taken, %d refused", taken, refused)
	}
}

// TestT6AnyBytes has all short bytes of few values, of many kinds of types and Long ones: every call ends, and answers as the chapter reads.
func TestT6AnyBytes(t *testing.T) {
	kinds := [][]api.Typed{nil, list(typed(api.TypeTiny)), list(typed(api.TypeNull), typed(api.TypeDate)), list(typed(api.TypeShort), typed(api.TypeNull), typed(api.TypeTiny)), list(typed(api.TypeBlob), typed(14)), list(typed(14)), times(unsigned(api.TypeTiny), 9)}
	longs := [][]bool{nil, {true}, {false, true}}
	var grow func(b []byte)
	grow = func(b []byte) {
		for _, types := range kinds {
			for _, is := range longs {
				for _, n := range []int{-1, 0, 1, 2, 3, 8, 9} {
					wantPlain(t, b, n, types, is)
				}
			}
		}
		if len(b) < 5 {
			for _, x := range []byte{0, 1, 2, 6, 128, 252} {
				grow(join(b, []byte{x}))
			}
		}
	}
	grow(nil)
}
