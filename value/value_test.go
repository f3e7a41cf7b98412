package value_test

import (
	"bytes"
	"fmt"
	"math"
	"math/big"
	"math/rand"
	"strings"
	"testing"

	"sluicegate/api"
	"sluicegate/value"
)

func wantCheck(t *testing.T, v api.Value, of api.Typed, want api.Errno) {
	t.Helper()
	if e := value.Check(v, of); e != want {
		t.Errorf("Check of %s as %v: %v, want %v", brief(v), of, e, want)
	}
}

func wantAppend(t *testing.T, b []byte, v api.Value, of api.Typed, want []byte) {
	t.Helper()
	wantCheck(t, v, of, api.OK)
	if got, e := value.Append(b, v, of); !bytes.Equal(got, want) || e != api.OK {
		t.Errorf("Append of %s as %v behind %d bytes: %s, %v, want %s", brief(v), of, len(b), brief(got), e, brief(want))
	}
}

func wantNotAppended(t *testing.T, v api.Value, of api.Typed) {
	t.Helper()
	for _, b := range [][]byte{nil, {}, {1, 2}} {
		if got, e := value.Append(b, v, of); len(got) != 0 || e != api.ErrArg {
			t.Errorf("Append of %s as %v behind %d bytes: %s, %v", brief(v), of, len(b), brief(got), e)
		}
	}
}

// wantRefused asks that a value may not be of a type.
func wantRefused(t *testing.T, v api.Value, of api.Typed) {
	t.Helper()
	wantCheck(t, v, of, api.ErrArg)
	wantNotAppended(t, v, of)
	wantText(t, v, of, "", api.ErrArg)
}

// wantPlain asks that all that takes a value answers as the chapter says.
func wantPlain(t *testing.T, v api.Value, of api.Typed) {
	t.Helper()
	if !plainMayBe(v, of) {
		wantRefused(t, v, of)
		return
	}
	wantCheck(t, v, of, api.OK)
	for _, b := range [][]byte{nil, {255, 0}} {
		want, wantE := plainAppend(b, v, of)
		if got, e := value.Append(b, v, of); !bytes.Equal(got, want) || e != wantE {
			t.Errorf("Append of %s as %v behind %v: %s, %v, want %s, %v", brief(v), of, b, brief(got), e, brief(want), wantE)
		}
	}
	s, e := plainText(v, of)
	wantText(t, v, of, s, e)
}

func wantRead(t *testing.T, b []byte, of api.Typed, want api.Value, wantN int) {
	t.Helper()
	if v, n, e := value.Read(b, of); v != want || n != wantN || e != api.OK {
		t.Errorf("Read of %s as %v: %s, %d, %v, want %s, %d", brief(b), of, brief(v), n, e, brief(want), wantN)
	}
}

func wantError(t *testing.T, b []byte, of api.Typed, want api.Errno) {
	t.Helper()
	if v, n, e := value.Read(b, of); v != (api.Value{}) || n != 0 || e != want {
		t.Errorf("Read of %s as %v: %s, %d, %v, want %v", brief(b), of, brief(v), n, e, want)
	}
}

// wantPlainRead asks that bytes are read as the chapter reads them.
func wantPlainRead(t *testing.T, b []byte, of api.Typed) {
	t.Helper()
	want, wantN, wantE := plainRead(b, of)
	if wantE != api.OK {
		wantError(t, b, of, wantE)
		return
	}
	wantRead(t, b, of, want, wantN)
}

func wantText(t *testing.T, v api.Value, of api.Typed, want string, wantE api.Errno) {
	t.Helper()
	if s, e := value.Text(v, of); s != want || e != wantE {
		t.Errorf("Text of %s as %v: %s, %v, want %s, %v", brief(v), of, brief(s), e, brief(want), wantE)
	}
}

func wantOf(t *testing.T, s string, of api.Typed, want api.Value, wantE api.Errno) {
	t.Helper()
	if v, e := value.Of(s, of); v != want || e != wantE {
		t.Errorf("Of of %q as %v: %s, %v, want %s, %v", brief(s), of, brief(v), e, brief(want), wantE)
	}
}

func wantNone(t *testing.T, s string, of api.Typed) {
	t.Helper()
	wantOf(t, s, of, api.Value{}, api.ErrBad)
}

// wantPlainOf asks that a text tells what the chapter says.
func wantPlainOf(t *testing.T, s string, of api.Typed) {
	t.Helper()
	want, wantE := plainOf(s, of)
	wantOf(t, s, of, want, wantE)
}

func TestExamples(t *testing.T) {
	wantAppend(t, nil, integer(-1), typed(api.TypeTiny), []byte{255})
	wantAppend(t, nil, integer(-1), typed(api.TypeLongLong), []byte{255, 255, 255, 255, 255, 255, 255, 255})
	wantAppend(t, nil, natural(255), unsigned(api.TypeTiny), []byte{255})
	wantRefused(t, integer(128), typed(api.TypeTiny))

	moment := date(2026, 11, 15, 11, 57, 25, 1)
	wantAppend(t, nil, date(2026, 11, 15), typed(api.TypeDate), []byte{4, 234, 7, 11, 15})
	wantAppend(t, nil, moment, typed(api.TypeDateTime), []byte{11, 234, 7, 11, 15, 11, 57, 25, 1, 0, 0, 0})
	wantAppend(t, nil, date(), typed(api.TypeDate), []byte{0})
	wantAppend(t, nil, date(), typed(api.TypeDateTime), []byte{0})
	wantAppend(t, nil, span(), typed(api.TypeTime), []byte{0})
	wantText(t, moment, typed(api.TypeDateTime), "2026-11-15 11:57:25.000001", api.OK)
	wantText(t, negative(span(1, 2)), typed(api.TypeTime), "-26:00:00", api.OK)

	wantError(t, []byte{4, 234, 7, 13, 1}, typed(api.TypeDate), api.ErrBad)
	wantError(t, []byte{5}, typed(api.TypeDate), api.ErrBad)
	wantError(t, []byte{4, 1}, typed(api.TypeDate), api.ErrShort)
	wantNone(t, "007", typed(api.TypeLong))
	wantNone(t, "-0", typed(api.TypeLong))
	wantOf(t, "26:00:00", typed(api.TypeTime), span(1, 2), api.OK)
}

// TestP16_1Kind has all types, as they were listed by hand, and as the chapter reads.
func TestP16_1Kind(t *testing.T) {
	for _, x := range []struct {
		kind, wide int
		types      []byte
	}{
		{api.ValueInt, api.ValueUint, []byte{api.TypeTiny, api.TypeShort, api.TypeYear, api.TypeLong, api.TypeInt24, api.TypeLongLong}},
		{api.ValueFloat, api.ValueFloat, []byte{api.TypeFloat}},
		{api.ValueDouble, api.ValueDouble, []byte{api.TypeDouble}},
		{api.ValueDate, api.ValueDate, []byte{api.TypeTimestamp, api.TypeDate, api.TypeDateTime}},
		{api.ValueTime, api.ValueTime, []byte{api.TypeTime}},
		{api.ValueNull, api.ValueNull, []byte{api.TypeNull}},
		{api.ValueText, api.ValueText, []byte{api.TypeDecimal, api.TypeVarChar, api.TypeBit, api.TypeJSON, api.TypeNewDecimal, api.TypeEnum, api.TypeSet, api.TypeTinyBlob, api.TypeMediumBlob, api.TypeLongBlob, api.TypeBlob, api.TypeVarString, api.TypeString, api.TypeGeometry}},
		{-1, -1, []byte{14, 17, 18, 100, 127, 128, 200, 243, 244}},
	} {
		for _, of := range x.types {
			if value.Kind(typed(of)) != x.kind || value.Kind(unsigned(of)) != x.wide {
				t.Errorf("Kind of %d, without a sign too: %d, %d, want %d, %d", of, value.Kind(typed(of)), value.Kind(unsigned(of)), x.kind, x.wide)
			}
		}
	}
	for _, of := range allTypes() {
		if kind := value.Kind(of); kind != plainKind(of) {
			t.Errorf("Kind of %v: %d, want %d", of, kind, plainKind(of))
		}
	}
}

// TestP16_1Null may be of all known types, but has bytes as TypeNull alone: none.
func TestP16_1Null(t *testing.T) {
	for _, of := range allTypes() {
		switch {
		case !isKnown(of.Type):
			wantRefused(t, api.Value{}, of)
		case of.Type == api.TypeNull:
			wantAppend(t, nil, api.Value{}, of, nil)
			wantAppend(t, []byte{1, 2}, api.Value{}, of, []byte{1, 2})
			wantText(t, api.Value{}, of, "", api.ErrArg)
		default:
			wantCheck(t, api.Value{}, of, api.OK)
			wantNotAppended(t, api.Value{}, of)
			wantText(t, api.Value{}, of, "", api.ErrArg)
		}
		for _, v := range mixed(api.ValueNull)[1:] {
			wantRefused(t, v, of)
		}
	}
}

// TestP16_1OtherFields has values of the right kind, of which another field is not zero.
func TestP16_1OtherFields(t *testing.T) {
	for _, of := range knownTypes() {
		v := api.Value{Kind: plainKind(of)}
		wantCheck(t, v, of, api.OK)
		for _, other := range []api.Value{{Int: 1}, {Bits: 1}, {Text: "a"}, {When: api.When{Neg: true}}, {When: api.When{Day: 1}}} {
			other.Kind = v.Kind
			wantPlain(t, other, of)
			if other != owns(other) {
				wantRefused(t, other, of)
			}
		}
	}
	both := integer(1)
	both.Bits = 1
	wantRefused(t, both, typed(api.TypeLong))
	both.Kind = api.ValueUint
	wantRefused(t, both, unsigned(api.TypeLong))
	dated := text("a")
	dated.When.Micro = 1
	wantRefused(t, dated, typed(api.TypeBlob))
}

// TestP16_1OtherKinds has values of each kind as each type.
func TestP16_1OtherKinds(t *testing.T) {
	for _, of := range allTypes() {
		for kind := -3; kind < 12; kind++ {
			v := api.Value{Kind: kind}
			if kind == api.ValueNull || kind != plainKind(of) || kind < 0 {
				wantPlain(t, v, of)
				continue
			}
			wantAppend(t, []byte{7}, v, of, join([]byte{7}, plainBytes(v, of)))
		}
	}
	for _, of := range []byte{api.TypeTiny, api.TypeShort, api.TypeYear, api.TypeLong, api.TypeInt24, api.TypeLongLong} {
		wantRefused(t, natural(1), typed(of))
		wantRefused(t, integer(1), unsigned(of))
	}
	wantRefused(t, double(1), typed(api.TypeFloat))
	wantRefused(t, float(1), typed(api.TypeDouble))
	wantRefused(t, span(1), typed(api.TypeDate))
	wantRefused(t, date(0, 0, 1), typed(api.TypeTime))
	wantRefused(t, text("1"), typed(api.TypeLong))
	wantRefused(t, integer(1), typed(api.TypeVarChar))
}

// TestP16_1Unknown has types that are not known: nothing is of them.
func TestP16_1Unknown(t *testing.T) {
	for _, of := range allTypes() {
		if isKnown(of.Type) {
			continue
		}
		for _, v := range []api.Value{{}, {Kind: -1}, integer(1), natural(1), float(1), double(1), date(1), span(1), text("a")} {
			wantRefused(t, v, of)
		}
		for _, b := range [][]byte{nil, {0}, {5}, {4, 1}, {255}} {
			wantError(t, b, of, api.ErrArg)
		}
		for _, s := range []string{"", "0", "x"} {
			wantOf(t, s, of, api.Value{}, api.ErrArg)
		}
	}
}

// TestP16_1Numbers has each size at its least, its greatest, and one beyond both.
func TestP16_1Numbers(t *testing.T) {
	for _, x := range []struct {
		of          byte
		least, most int64
		wide        uint64
	}{
		{api.TypeTiny, -128, 127, 255},
		{api.TypeShort, -32_768, 32_767, 65_535},
		{api.TypeYear, -32_768, 32_767, 65_535},
		{api.TypeLong, -2_147_483_648, 2_147_483_647, 4_294_967_295},
		{api.TypeInt24, -2_147_483_648, 2_147_483_647, 4_294_967_295},
	} {
		for _, v := range []api.Value{integer(x.least), integer(x.least + 1), integer(-1), integer(0), integer(1), integer(x.most - 1), integer(x.most)} {
			wantAppend(t, []byte{3}, v, typed(x.of), join([]byte{3}, plainBytes(v, typed(x.of))))
		}
		for _, v := range []api.Value{integer(x.least - 1), integer(x.most + 1), integer(math.MinInt64), integer(math.MaxInt64), integer(int64(x.wide))} {
			wantRefused(t, v, typed(x.of))
		}
		for _, v := range []api.Value{natural(0), natural(uint64(x.most)), natural(uint64(x.most) + 1), natural(x.wide - 1), natural(x.wide)} {
			wantAppend(t, nil, v, unsigned(x.of), plainBytes(v, unsigned(x.of)))
		}
		for _, v := range []api.Value{natural(x.wide + 1), natural(1 << 63), natural(math.MaxUint64)} {
			wantRefused(t, v, unsigned(x.of))
		}
	}
	wantAppend(t, nil, integer(math.MinInt64), typed(api.TypeLongLong), []byte{0, 0, 0, 0, 0, 0, 0, 128})
	wantAppend(t, nil, integer(math.MaxInt64), typed(api.TypeLongLong), []byte{255, 255, 255, 255, 255, 255, 255, 127})
	wantAppend(t, nil, natural(math.MaxUint64), unsigned(api.TypeLongLong), []byte{255, 255, 255, 255, 255, 255, 255, 255})
	wantAppend(t, nil, natural(1<<63), unsigned(api.TypeLongLong), []byte{0, 0, 0, 0, 0, 0, 0, 128})
}

// TestP16_1Written has bytes that were written out by hand.
func TestP16_1Written(t *testing.T) {
	for _, x := range []struct {
		v    api.Value
		of   api.Typed
		want []byte
	}{
		{integer(-128), typed(api.TypeTiny), []byte{128}},
		{integer(-2), typed(api.TypeShort), []byte{254, 255}},
		{integer(2026), typed(api.TypeYear), []byte{234, 7}},
		{natural(2026), unsigned(api.TypeYear), []byte{234, 7}},
		{integer(-256), typed(api.TypeLong), []byte{0, 255, 255, 255}},
		{integer(0x01020304), typed(api.TypeInt24), []byte{4, 3, 2, 1}},
		{natural(0xf1f2f3f4), unsigned(api.TypeInt24), []byte{0xf4, 0xf3, 0xf2, 0xf1}},
		{integer(7), typed(api.TypeLongLong), []byte{7, 0, 0, 0, 0, 0, 0, 0}},
		{float(uint64(math.Float32bits(1))), typed(api.TypeFloat), []byte{0, 0, 128, 63}},
		{float(1<<32 - 1), unsigned(api.TypeFloat), []byte{255, 255, 255, 255}},
		{double(math.Float64bits(-2)), typed(api.TypeDouble), []byte{0, 0, 0, 0, 0, 0, 0, 192}},
		{double(math.MaxUint64), unsigned(api.TypeDouble), []byte{255, 255, 255, 255, 255, 255, 255, 255}},
		{date(2026, 11, 15), typed(api.TypeTimestamp), []byte{4, 234, 7, 11, 15}},
		{date(2026, 11, 15, 1), unsigned(api.TypeDateTime), []byte{7, 234, 7, 11, 15, 1, 0, 0}},
		{date(0, 0, 0, 0, 0, 1), typed(api.TypeTimestamp), []byte{7, 0, 0, 0, 0, 0, 0, 1}},
		{date(9999, 12, 31, 23, 59, 59, 999_999), typed(api.TypeDateTime), []byte{11, 15, 39, 12, 31, 23, 59, 59, 63, 66, 15, 0}},
		{date(0, 0, 0, 0, 0, 0, 256), typed(api.TypeDateTime), []byte{11, 0, 0, 0, 0, 0, 0, 0, 0, 1, 0, 0}},
		{span(0, 0, 0, 1), typed(api.TypeTime), []byte{8, 0, 0, 0, 0, 0, 0, 0, 1}},
		{negative(span(34, 23, 59, 58)), typed(api.TypeTime), []byte{8, 1, 34, 0, 0, 0, 23, 59, 58}},
		{negative(span(0, 0, 0, 0, 1)), unsigned(api.TypeTime), []byte{12, 1, 0, 0, 0, 0, 0, 0, 0, 1, 0, 0, 0}},
		{span(1, 2, 3, 4, 999_999), typed(api.TypeTime), []byte{12, 0, 1, 0, 0, 0, 2, 3, 4, 63, 66, 15, 0}},
		{text(""), typed(api.TypeDecimal), []byte{0}},
		{text("ab\x00"), unsigned(api.TypeGeometry), []byte{3, 'a', 'b', 0}},
		{text(strings.Repeat("z", 251)), typed(api.TypeBit), join([]byte{252, 251, 0}, bytes.Repeat([]byte{'z'}, 251))},
		{api.Value{}, typed(api.TypeNull), nil},
		{api.Value{}, unsigned(api.TypeNull), nil},
	} {
		wantAppend(t, nil, x.v, x.of, x.want)
		wantAppend(t, []byte{9, 0}, x.v, x.of, join([]byte{9, 0}, x.want))
		wantRead(t, x.want, x.of, x.v, len(x.want))
		wantRead(t, join(x.want, []byte{0, 255}), x.of, x.v, len(x.want))
	}
}

// TestP16_1Floats have bits that fit into four bytes, doubles all.
func TestP16_1Floats(t *testing.T) {
	for _, x := range []uint64{0, 1, 1<<31 - 1, 1 << 31, 1<<32 - 1} {
		wantAppend(t, nil, float(x), typed(api.TypeFloat), plainBytes(float(x), typed(api.TypeFloat)))
	}
	for _, x := range []uint64{1 << 32, 1<<32 + 1, 1 << 63, math.MaxUint64} {
		wantRefused(t, float(x), typed(api.TypeFloat))
		wantAppend(t, nil, double(x), typed(api.TypeDouble), plainBytes(double(x), typed(api.TypeDouble)))
	}
}

// TestP16_1Dates has each field at its least, its greatest, and one beyond both.
func TestP16_1Dates(t *testing.T) {
	for _, of := range []byte{api.TypeDate, api.TypeDateTime, api.TypeTimestamp} {
		for i, most := range []int{9999, 12, 31, 23, 59, 59, 999_999} {
			if i > 2 && of == api.TypeDate {
				most = 0
			}
			for _, base := range []api.Value{date(), date(1, 1, 1), date(9999, 12, 31)} {
				for _, x := range []int{0, most / 2, most} {
					v := withField(base, i, x)
					wantAppend(t, nil, v, typed(of), plainBytes(v, typed(of)))
				}
				for _, x := range []int{-1, most + 1, math.MinInt64, math.MaxInt64} {
					wantRefused(t, withField(base, i, x), typed(of))
				}
			}
		}
		wantRefused(t, negative(date()), typed(of))
		wantRefused(t, negative(date(2026, 11, 15)), typed(of))
	}
}

// TestP16_1Times has likewise each field of a time.
func TestP16_1Times(t *testing.T) {
	of := typed(api.TypeTime)
	for i, most := range []int{0, 0, 34, 23, 59, 59, 999_999} {
		for _, base := range []api.Value{span(), span(1, 1), negative(span(34, 23, 59, 59, 999_999))} {
			for _, x := range []int{0, most / 2, most} {
				v := withField(base, i, x)
				wantAppend(t, nil, v, of, plainBytes(v, of))
			}
			for _, x := range []int{-1, most + 1, math.MinInt64, math.MaxInt64} {
				wantRefused(t, withField(base, i, x), of)
			}
		}
	}
	wantRefused(t, negative(span()), of)
	for i := 2; i < 7; i++ {
		v := withField(negative(span()), i, 1)
		wantAppend(t, nil, v, of, plainBytes(v, of))
	}
}

// TestP16_1Longest has texts of 2^24 bytes and of one more.
func TestP16_1Longest(t *testing.T) {
	long := climbing(3, 1<<24+1)
	for _, of := range []api.Typed{typed(api.TypeLongBlob), unsigned(api.TypeDecimal)} {
		wantRefused(t, text(long), of)
		most := text(long[:1<<24])
		count := []byte{254, 0, 0, 0, 1, 0, 0, 0, 0}
		want := join([]byte{8}, count, []byte(most.Text))
		wantAppend(t, []byte{8}, most, of, want)
		wantRead(t, want[1:], of, most, 9+1<<24)
		wantError(t, want[1:len(want)-1], of, api.ErrShort)
		wantText(t, most, of, most.Text, api.OK)
		wantOf(t, most.Text, of, most, api.OK)
		wantNone(t, long, of)
		more := join([]byte{254, 1, 0, 0, 1, 0, 0, 0, 0}, []byte(long))
		wantError(t, more, of, api.ErrBad)
		wantError(t, more[:len(more)-1], of, api.ErrShort)
		wantError(t, more[:20], of, api.ErrShort)
	}
}

// TestP16_1All has all sorts of values as each type.
func TestP16_1All(t *testing.T) {
	for _, of := range knownTypes() {
		for _, v := range values() {
			wantPlain(t, v, of)
		}
	}
}

// TestP16_1Behind has values behind nothing and behind something, their own bytes too.
func TestP16_1Behind(t *testing.T) {
	for _, of := range knownTypes() {
		for _, v := range fewOf(of) {
			own := plainBytes(v, of)
			for _, b := range [][]byte{nil, {}, {0}, {254, 255, 251}, own, []byte(climbing(0, 300))} {
				wantAppend(t, b, v, of, join(b, own))
			}
		}
	}
}

// TestP16_2Forms has all forms of values, with nothing and with something behind, and cut at every place.
func TestP16_2Forms(t *testing.T) {
	for _, of := range knownTypes() {
		for _, v := range putOf(of) {
			for _, b := range plainForms(v, of) {
				wantRead(t, b, of, v, len(b))
				for _, tail := range [][]byte{{0}, {255, 255}, b} {
					wantRead(t, join(b, tail), of, v, len(b))
				}
				if len(b) > 300 {
					wantError(t, b[:len(b)-1], of, api.ErrShort)
					wantError(t, b[:1], of, api.ErrShort)
					continue
				}
				for end := range b {
					wantError(t, b[:end], of, api.ErrShort)
				}
			}
		}
	}
}

// TestP16_2Nothing at all is too short for all types but TypeNull.
func TestP16_2Nothing(t *testing.T) {
	for _, of := range knownTypes() {
		for _, b := range [][]byte{nil, {}} {
			if of.Type == api.TypeNull {
				wantRead(t, b, of, api.Value{}, 0)
				continue
			}
			wantError(t, b, of, api.ErrShort)
		}
	}
	for _, b := range [][]byte{{0}, {251}, {255, 1, 2}, []byte(climbing(0, 300))} {
		wantRead(t, b, typed(api.TypeNull), api.Value{}, 0)
		wantRead(t, b, unsigned(api.TypeNull), api.Value{}, 0)
	}
}

// TestP16_2Numbers has all of one and of two bytes.
func TestP16_2Numbers(t *testing.T) {
	for x := range 1 << 16 {
		b := []byte{byte(x), byte(x >> 8)}
		wantRead(t, b, typed(api.TypeTiny), integer(int64(int8(x))), 1)
		wantRead(t, b, unsigned(api.TypeTiny), natural(uint64(x&255)), 1)
		wantRead(t, b, typed(api.TypeShort), integer(int64(int16(x))), 2)
		wantRead(t, b, unsigned(api.TypeYear), natural(uint64(x)), 2)
	}
	wantRead(t, []byte{0, 0, 0, 128}, typed(api.TypeLong), integer(math.MinInt32), 4)
	wantRead(t, []byte{0, 0, 0, 128}, unsigned(api.TypeLong), natural(1<<31), 4)
	wantRead(t, []byte{255, 255, 255, 127}, typed(api.TypeInt24), integer(math.MaxInt32), 4)
	wantRead(t, []byte{0, 0, 0, 0, 0, 0, 0, 128}, typed(api.TypeLongLong), integer(math.MinInt64), 8)
	wantRead(t, []byte{0, 0, 0, 0, 0, 0, 0, 128}, unsigned(api.TypeLongLong), natural(1<<63), 8)
	wantRead(t, []byte{255, 255, 255, 255}, typed(api.TypeFloat), float(math.MaxUint32), 4)
}

// TestP16_2FirstBytes has each first byte, with nothing behind it, with zeros, and with ones.
func TestP16_2FirstBytes(t *testing.T) {
	for first := range 256 {
		for _, of := range []byte{api.TypeDate, api.TypeDateTime, api.TypeTimestamp, api.TypeTime} {
			may := []int{0, 4, 7, 11}
			if of == api.TypeTime {
				may = []int{0, 8, 12}
			}
			is := false
			for _, n := range may {
				is = is || n == first
			}
			for _, fill := range []byte{0, 1} {
				b := join([]byte{byte(first)}, bytes.Repeat([]byte{fill}, 260))
				if !is {
					wantError(t, b, typed(of), api.ErrBad)
					wantError(t, b[:1], typed(of), api.ErrBad)
					continue
				}
				wantPlainRead(t, b, typed(of))
				wantPlainRead(t, b[:1], typed(of))
			}
		}
		for _, tail := range []int{0, 1, 2, 3, 8, 9, 300} {
			wantPlainRead(t, join([]byte{byte(first)}, make([]byte, tail)), typed(api.TypeString))
		}
	}
}

// TestP16_2Needless has dates and times of more bytes than they need.
func TestP16_2Needless(t *testing.T) {
	for _, x := range []struct {
		b    []byte
		of   byte
		want api.Value
	}{
		{[]byte{4, 0, 0, 0, 0}, api.TypeDate, date()},
		{[]byte{7, 0, 0, 0, 0, 0, 0, 0}, api.TypeDate, date()},
		{[]byte{11, 0, 0, 0, 0, 0, 0, 0, 0, 0, 0, 0}, api.TypeDate, date()},
		{[]byte{7, 234, 7, 11, 15, 0, 0, 0}, api.TypeDate, date(2026, 11, 15)},
		{[]byte{11, 234, 7, 11, 15, 0, 0, 0, 0, 0, 0, 0}, api.TypeDate, date(2026, 11, 15)},
		{[]byte{11, 234, 7, 11, 15, 0, 0, 0, 0, 0, 0, 0}, api.TypeDateTime, date(2026, 11, 15)},
		{[]byte{11, 234, 7, 11, 15, 1, 2, 3, 0, 0, 0, 0}, api.TypeTimestamp, date(2026, 11, 15, 1, 2, 3)},
		{[]byte{8, 0, 0, 0, 0, 0, 0, 0, 0}, api.TypeTime, span()},
		{[]byte{12, 0, 0, 0, 0, 0, 0, 0, 0, 0, 0, 0, 0}, api.TypeTime, span()},
		{[]byte{12, 1, 1, 0, 0, 0, 2, 0, 0, 0, 0, 0, 0}, api.TypeTime, negative(span(1, 2))},
	} {
		wantRead(t, x.b, typed(x.of), x.want, len(x.b))
	}
}

// TestP16_2Fields has each byte of dates and of times turned into each other byte.
func TestP16_2Fields(t *testing.T) {
	moment := join([]byte{11}, longDate(date(2026, 11, 15, 11, 57, 25, 0x0dbba0).When))
	length := join([]byte{12}, longTime(negative(span(1, 2, 3, 4, 0x0dbba0)).When))
	for x := range 256 {
		for at := 1; at < len(moment); at++ {
			for _, b := range [][]byte{moment, make([]byte, 12)} {
				b = with(with(b, 0, 11), at, byte(x))
				wantPlainRead(t, b, typed(api.TypeDateTime))
				wantPlainRead(t, b, typed(api.TypeDate))
			}
		}
		for at := 1; at < len(length); at++ {
			for _, b := range [][]byte{length, make([]byte, 13)} {
				wantPlainRead(t, with(with(b, 0, 12), at, byte(x)), typed(api.TypeTime))
			}
		}
	}
}

// TestP16_2MayNotBe has fields that may not be, one by one.
func TestP16_2MayNotBe(t *testing.T) {
	for _, x := range []struct {
		of byte
		b  []byte
	}{
		{api.TypeDate, []byte{4, 16, 39, 1, 1}},
		{api.TypeDate, []byte{4, 255, 255, 1, 1}},
		{api.TypeDate, []byte{4, 1, 0, 13, 1}},
		{api.TypeDate, []byte{4, 1, 0, 1, 32}},
		{api.TypeDate, []byte{7, 1, 0, 1, 1, 1, 0, 0}},
		{api.TypeDate, []byte{7, 1, 0, 1, 1, 0, 1, 0}},
		{api.TypeDate, []byte{7, 1, 0, 1, 1, 0, 0, 1}},
		{api.TypeDate, []byte{11, 1, 0, 1, 1, 0, 0, 0, 1, 0, 0, 0}},
		{api.TypeDateTime, []byte{7, 1, 0, 1, 1, 24, 0, 0}},
		{api.TypeDateTime, []byte{7, 1, 0, 1, 1, 0, 60, 0}},
		{api.TypeTimestamp, []byte{7, 1, 0, 1, 1, 0, 0, 60}},
		{api.TypeTimestamp, []byte{11, 1, 0, 1, 1, 0, 0, 0, 64, 66, 15, 0}},
		{api.TypeTimestamp, []byte{11, 1, 0, 1, 1, 0, 0, 0, 255, 255, 255, 255}},
		{api.TypeTime, []byte{8, 2, 1, 0, 0, 0, 0, 0, 0}},
		{api.TypeTime, []byte{8, 255, 1, 0, 0, 0, 0, 0, 0}},
		{api.TypeTime, []byte{8, 1, 0, 0, 0, 0, 0, 0, 0}},
		{api.TypeTime, []byte{12, 1, 0, 0, 0, 0, 0, 0, 0, 0, 0, 0, 0}},
		{api.TypeTime, []byte{8, 0, 35, 0, 0, 0, 0, 0, 0}},
		{api.TypeTime, []byte{8, 0, 0, 1, 0, 0, 0, 0, 0}},
		{api.TypeTime, []byte{8, 0, 255, 255, 255, 255, 0, 0, 0}},
		{api.TypeTime, []byte{8, 0, 0, 0, 0, 128, 0, 0, 0}},
		{api.TypeTime, []byte{8, 0, 1, 0, 0, 0, 24, 0, 0}},
		{api.TypeTime, []byte{8, 0, 1, 0, 0, 0, 0, 60, 0}},
		{api.TypeTime, []byte{8, 0, 1, 0, 0, 0, 0, 0, 60}},
		{api.TypeTime, []byte{12, 0, 1, 0, 0, 0, 0, 0, 0, 64, 66, 15, 0}},
		{api.TypeVarChar, []byte{251}},
		{api.TypeVarChar, []byte{255, 1, 2, 3, 4, 5, 6, 7, 8}},
	} {
		wantError(t, x.b, typed(x.of), api.ErrBad)
		wantError(t, join(x.b, []byte{0}), typed(x.of), api.ErrBad)
		// Whatever may not be, b that ends within it is short.
		if x.of != api.TypeVarChar {
			for end := range x.b {
				wantError(t, x.b[:end], typed(x.of), api.ErrShort)
			}
		}
	}
}

// TestP16_2LongTexts are told as longer than what is there.
func TestP16_2LongTexts(t *testing.T) {
	for _, b := range [][]byte{{1}, {2, 'a'}, {250, 'a'}, {252}, {252, 1}, {252, 1, 0}, {252, 0, 1, 'a'}, {253, 1, 0}, {253, 0, 0, 255, 'a'},
		{254, 0, 0, 0, 0, 0, 0, 0}, {254, 1, 0, 0, 0, 0, 0, 0, 0}, {254, 1, 0, 0, 1, 0, 0, 0, 0, 'a'},
		{254, 255, 255, 255, 255, 255, 255, 255, 255, 'a'}, {254, 0, 0, 0, 0, 0, 0, 0, 128, 'a'}, {254, 248, 255, 255, 255, 255, 255, 255, 127}} {
		wantError(t, b, typed(api.TypeBlob), api.ErrShort)
	}
}

// TestP16_2Few has all of up to two bytes, as each kind.
func TestP16_2Few(t *testing.T) {
	for _, of := range fewTypes() {
		for x := range 256 {
			wantPlainRead(t, []byte{byte(x)}, of)
			for y := range 256 {
				wantPlainRead(t, []byte{byte(x), byte(y)}, of)
			}
		}
	}
}

// TestP16_3Written has texts that were written out by hand.
func TestP16_3Written(t *testing.T) {
	for _, x := range []struct {
		v    api.Value
		of   api.Typed
		want string
	}{
		{integer(0), typed(api.TypeTiny), "0"},
		{integer(-128), typed(api.TypeTiny), "-128"},
		{integer(127), typed(api.TypeTiny), "127"},
		{natural(255), unsigned(api.TypeTiny), "255"},
		{integer(-32_768), typed(api.TypeShort), "-32768"},
		{natural(65_535), unsigned(api.TypeYear), "65535"},
		{integer(-2_147_483_648), typed(api.TypeLong), "-2147483648"},
		{integer(2_147_483_647), typed(api.TypeInt24), "2147483647"},
		{natural(4_294_967_295), unsigned(api.TypeInt24), "4294967295"},
		{integer(math.MinInt64), typed(api.TypeLongLong), "-9223372036854775808"},
		{integer(math.MaxInt64), typed(api.TypeLongLong), "9223372036854775807"},
		{natural(math.MaxUint64), unsigned(api.TypeLongLong), "18446744073709551615"},
		{date(), typed(api.TypeDate), "0000-00-00"},
		{date(7, 8, 9), typed(api.TypeDate), "0007-08-09"},
		{date(9999, 12, 31), unsigned(api.TypeDate), "9999-12-31"},
		{date(), typed(api.TypeDateTime), "0000-00-00 00:00:00"},
		{date(2026, 11, 15), typed(api.TypeTimestamp), "2026-11-15 00:00:00"},
		{date(2026, 1, 2, 3, 4, 5), typed(api.TypeDateTime), "2026-01-02 03:04:05"},
		{date(9999, 12, 31, 23, 59, 59, 999_999), typed(api.TypeTimestamp), "9999-12-31 23:59:59.999999"},
		{date(0, 0, 0, 0, 0, 0, 100), typed(api.TypeDateTime), "0000-00-00 00:00:00.000100"},
		{span(), typed(api.TypeTime), "00:00:00"},
		{span(0, 9, 8, 7), typed(api.TypeTime), "09:08:07"},
		{negative(span(0, 0, 0, 0, 1)), typed(api.TypeTime), "-00:00:00.000001"},
		{span(4, 3), typed(api.TypeTime), "99:00:00"},
		{span(4, 4), typed(api.TypeTime), "100:00:00"},
		{negative(span(4, 4)), unsigned(api.TypeTime), "-100:00:00"},
		{span(34, 23, 59, 59, 999_999), typed(api.TypeTime), "839:59:59.999999"},
		{negative(span(34, 23, 59, 59, 100_000)), typed(api.TypeTime), "-839:59:59.100000"},
		{text(""), typed(api.TypeString), ""},
		{text(" a\x00\xff"), typed(api.TypeJSON), " a\x00\xff"},
		{text("007"), unsigned(api.TypeNewDecimal), "007"},
	} {
		wantText(t, x.v, x.of, x.want, api.OK)
		wantOf(t, x.want, x.of, x.v, api.OK)
	}
}

// TestP16_3NoText has kinds without a text.
func TestP16_3NoText(t *testing.T) {
	for _, x := range []struct {
		v  api.Value
		of byte
	}{{float(0), api.TypeFloat}, {float(math.MaxUint32), api.TypeFloat}, {double(0), api.TypeDouble}, {double(math.MaxUint64), api.TypeDouble}, {api.Value{}, api.TypeNull}} {
		wantText(t, x.v, typed(x.of), "", api.ErrArg)
		wantText(t, x.v, unsigned(x.of), "", api.ErrArg)
		for _, s := range []string{"", "0", "1.5", "1e9", "NULL", "NaN", "x"} {
			wantOf(t, s, typed(x.of), api.Value{}, api.ErrArg)
			wantOf(t, s, unsigned(x.of), api.Value{}, api.ErrArg)
		}
	}
}

// TestP16_3NoNumbers has texts that are no number's.
func TestP16_3NoNumbers(t *testing.T) {
	for _, of := range knownTypes() {
		if kind := plainKind(of); kind != api.ValueInt && kind != api.ValueUint {
			continue
		}
		for _, s := range []string{"", " ", "-", "+", "--1", "+1", "+0", "-0", "00", "01", "007", "-01", "-00", " 1", "1 ", "1\n", "\t1", "1 0", "1_0", "0x1", "0b1", "0o7", "1e1", "1.0", "1.", ".1", "1,0",
			"a", "１", "\x001", "1\x00", "-\x001", "NULL", strings.Repeat("0", 30) + "1", strings.Repeat("9", 30), "-" + strings.Repeat("9", 400)} {
			wantNone(t, s, of)
		}
		least, most := bounds(of)
		for d := int64(-2); d <= 2; d++ {
			wantPlainOf(t, new(big.Int).Add(least, big.NewInt(d)).String(), of)
			wantPlainOf(t, new(big.Int).Add(most, big.NewInt(d)).String(), of)
		}
		wantNone(t, new(big.Int).Sub(least, big.NewInt(1)).String(), of)
		wantNone(t, new(big.Int).Add(most, big.NewInt(1)).String(), of)
		for x := -300; x <= 300; x++ {
			wantPlainOf(t, fmt.Sprint(x), of)
		}
	}
	wantNone(t, "-1", unsigned(api.TypeLongLong))
	wantNone(t, "18446744073709551616", unsigned(api.TypeLongLong))
	wantNone(t, "9223372036854775808", typed(api.TypeLongLong))
	wantNone(t, "-9223372036854775809", typed(api.TypeLongLong))
}

// TestP16_3NoDates has texts that are no date's.
func TestP16_3NoDates(t *testing.T) {
	for _, of := range []byte{api.TypeDate, api.TypeDateTime, api.TypeTimestamp} {
		clock := " 11:57:25"
		if of == api.TypeDate {
			clock = ""
		}
		for _, day := range []string{"", "2026", "2026-11", "2026-11-1", "2026-1-15", "226-11-15", "12026-11-15", "2026-011-15", "2026-11-015", "2026-13-01", "2026-11-32", "+026-11-15", "-026-11-15", "2026-+1-15", "2026--1-15",
			"2026-11--1", "2026-11-+1", "2026/11/15", "2026 11 15", "20261115", " 2026-11-15", "2026-11-15x", "2026-11- 5", "2026-11-1\x00", "a026-11-15"} {
			wantNone(t, day+clock, typed(of))
		}
	}
	for _, clock := range []string{"", " ", " 1", " 11", " 11:", " 11:57", " 11:57:", " 11:57:2", "T11:57:25", "11:57:25", "  11:57:25", " 24:57:25", " 11:60:25", " 11:57:60", " 1:57:25", " 11:7:25", " 11:57:5", " 011:57:25",
		" 11:057:25", " 11:57:025", " -1:57:25", " +1:57:25", " 11:-1:25", " 11:57:-1", " 11-57-25", " 11:57:25 ", " 11:57:25.", " 11:57:25.0", " 11:57:25.1", " 11:57:25.00001", " 11:57:25.000000", " 11:57:25.0000001",
		" 11:57:25.1000000", " 11:57:25,000001", " 11:57:25:000001", " 11:57:25.-00001", " 11:57:25.+00001", " 11:57:25.000001 ", " 11:57:25.00000a", " 100:57:25"} {
		wantNone(t, "2026-11-15"+clock, typed(api.TypeDateTime))
		wantNone(t, "2026-11-15"+clock, unsigned(api.TypeTimestamp))
	}
	for _, clock := range []string{" ", " 00:00:00", " 11:57:25", " 00:00:00.000001", "T", "x"} {
		wantNone(t, "2026-11-15"+clock, typed(api.TypeDate))
	}
}

// TestP16_3NoTimes has texts that are no time's.
func TestP16_3NoTimes(t *testing.T) {
	of := typed(api.TypeTime)
	for _, s := range []string{"", "-", ":", "::", "00", "00:00", "00:00:", "00:00:0", ":00:00", "-:00:00", "0:00:00", "1:00:00", "000:00:00", "001:00:00", "099:00:00", "0100:00:00", "840:00:00", "-840:00:00", "839:60:00", "839:59:60", "999:00:00",
		"1000:00:00", "9999999999:00:00", strings.Repeat("9", 40) + ":00:00", "-00:00:00", "--01:00:00", "+01:00:00", "-+1:00:00", "+-1:00:00", " 01:00:00", "01:00:00 ", "01:0:00", "01:00:0", "01:000:00", "01:00:000", "01:-1:00", "01:00:-1", "01:+1:00", "01-00-00",
		"01:00:00.", "01:00:00.0", "01:00:00.000000", "-00:00:00.000000", "01:00:00.00001", "01:00:00.0000001", "01:00:00,000001", "01:00:00.+00001", "01:00:00.-00001", "01 00:00", "1 02:00:00", "2026-11-15 01:00:00", "a1:00:00", "01:00:00x", "０1:00:00"} {
		wantNone(t, s, of)
	}
	for hours := range 1100 {
		for _, form := range []string{"%d:00:00", "%02d:00:00", "%03d:00:00", "-%02d:00:00", "%02d:59:59.999999", "-%02d:00:00.000001", "-%d:00:01"} {
			wantPlainOf(t, fmt.Sprintf(form, hours), of)
		}
	}
	wantOf(t, "839:00:00", of, span(34, 23), api.OK)
	wantOf(t, "-839:59:59.999999", of, negative(span(34, 23, 59, 59, 999_999)), api.OK)
}

// TestP16_3Turned has texts with each byte turned, left out, or with another one ahead of it.
func TestP16_3Turned(t *testing.T) {
	texts := []string{"0", "7", "-1", "127", "-128", "255", "65535", "-32768", "4294967295", "18446744073709551615", "-9223372036854775808", "2026-11-15", "0000-00-00", "9999-12-31",
		"2026-11-15 11:57:25", "2026-11-15 11:57:25.000001", "0000-00-00 00:00:00", "9999-12-31 23:59:59.999999", "00:00:00", "26:00:00", "-26:00:00", "99:59:59", "100:00:00", "839:59:59.999999", "-00:00:00.000001"}
	for _, of := range knownTypes() {
		for _, s := range texts {
			for _, other := range turned(s) {
				wantPlainOf(t, other, of)
			}
		}
	}
}

// TestP16_3Bytes has each byte at each place of a date-time's and of a time's text.
func TestP16_3Bytes(t *testing.T) {
	for _, x := range []struct {
		of byte
		s  string
	}{{api.TypeDateTime, "2026-11-15 11:57:25.100001"}, {api.TypeDate, "2026-11-15"}, {api.TypeTime, "-126:10:20.000300"}, {api.TypeLong, "-1234567"}} {
		for at := range x.s {
			for c := range 256 {
				wantPlainOf(t, string(with([]byte(x.s), at, byte(c))), typed(x.of))
				wantPlainOf(t, x.s[:at]+string([]byte{byte(c)})+x.s[at:], typed(x.of))
			}
		}
	}
}

// TestTwoFaults tells the first of two errors, as the chapter names them.
func TestTwoFaults(t *testing.T) {
	wantError(t, nil, typed(14), api.ErrArg)
	wantError(t, []byte{4, 234, 7, 13}, typed(api.TypeDate), api.ErrShort)
	wantError(t, []byte{11, 255, 255, 255, 255, 255, 255, 255}, typed(api.TypeDateTime), api.ErrShort)
	wantError(t, []byte{8, 9, 255}, typed(api.TypeTime), api.ErrShort)
	wantError(t, []byte{7, 234, 7, 11, 15, 1, 0}, typed(api.TypeDate), api.ErrShort)
	wantError(t, []byte{13, 255}, typed(api.TypeTime), api.ErrBad)
	wantError(t, []byte{254, 1, 0, 0, 1, 0, 0, 0, 0}, typed(api.TypeBlob), api.ErrShort)
	wantOf(t, "007", typed(14), api.Value{}, api.ErrArg)
	wantOf(t, "007", typed(api.TypeFloat), api.Value{}, api.ErrArg)
	wantOf(t, "", typed(api.TypeNull), api.Value{}, api.ErrArg)
	wantRefused(t, api.Value{Kind: api.ValueNull, Int: 1}, typed(14))
	wantRefused(t, float(1<<32), typed(api.TypeFloat))
}

// TestP16_4ReadBack has all that is appended and told as a text, given back.
func TestP16_4ReadBack(t *testing.T) {
	for _, of := range knownTypes() {
		for _, v := range putOf(of) {
			b, e := value.Append([]byte{1, 2, 3}, v, of)
			if e != api.OK {
				t.Errorf("Append of %s as %v: %v", brief(v), of, e)
				continue
			}
			for _, tail := range [][]byte{nil, {0}, {1, 2, 3, 4, 5, 6, 7, 8, 9, 10, 11, 12}, {255, 255}} {
				wantRead(t, join(b[3:], tail), of, v, len(b)-3)
			}
			if s, e := value.Text(v, of); e == api.OK {
				wantOf(t, s, of, v, api.OK)
			}
		}
	}
}

// wantKept asks that what is read may be, and that its bytes are no more than those that were read.
func wantKept(t *testing.T, b []byte, of api.Typed) {
	t.Helper()
	v, n, e := value.Read(b, of)
	if e != api.OK {
		return
	}
	wantCheck(t, v, of, api.OK)
	again, e := value.Append(nil, v, of)
	if e != api.OK || len(again) > n || n > len(b) {
		t.Errorf("of %s as %v %d bytes were read: appended they are %s, %v", brief(b), of, n, brief(again), e)
	}
	wantRead(t, again, of, v, len(again))
}

func TestP16_4NoMore(t *testing.T) {
	for _, of := range knownTypes() {
		for _, v := range putOf(of) {
			for _, b := range plainForms(v, of) {
				wantKept(t, b, of)
				wantKept(t, append(bytes.Clone(b), 0, 255), of)
			}
		}
	}
}

// TestDrawn has values, bytes and texts that were drawn.
func TestDrawn(t *testing.T) {
	r := rand.New(rand.NewSource(16))
	for range 100_000 {
		of := drawnTyped(r)
		wantPlain(t, drawnValue(r, of), of)
		b := drawnBytes(r, of)
		wantPlainRead(t, b, of)
		wantKept(t, b, of)
		s := drawnText(r, of)
		wantPlainOf(t, s, of)
		if v, e := value.Of(s, of); e == api.OK {
			wantText(t, v, of, s, api.OK)
		}
	}
}
