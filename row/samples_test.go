package row_test

import (
	"bytes"
	"fmt"
	"math"
	"math/rand"
	"slices"
	"strings"

	"sluicegate/api"
)

func typed(t byte) api.Typed {
	return api.Typed{Type: t}
}

func unsigned(t byte) api.Typed {
	return api.Typed{Type: t, Unsigned: true}
}

func integer(x int64) api.Value {
	return api.Value{Kind: api.ValueInt, Int: x}
}

func natural(x uint64) api.Value {
	return api.Value{Kind: api.ValueUint, Bits: x}
}

func float(x uint64) api.Value {
	return api.Value{Kind: api.ValueFloat, Bits: x}
}

func double(x uint64) api.Value {
	return api.Value{Kind: api.ValueDouble, Bits: x}
}

func text(s string) api.Value {
	return api.Value{Kind: api.ValueText, Text: s}
}

func date(w api.When) api.Value {
	return api.Value{Kind: api.ValueDate, When: w}
}

func span(w api.When) api.Value {
	return api.Value{Kind: api.ValueTime, When: w}
}

// list is a list that is written out.
func list[T any](l ...T) []T {
	return l
}

// times is a list of one thing n times.
func times[T any](x T, n int) []T {
	return slices.Repeat([]T{x}, n)
}

func join(parts ...[]byte) []byte {
	return slices.Concat(parts...)
}

// with is a list with another thing at a place.
func with[T any](l []T, at int, x T) []T {
	l = slices.Clone(l)
	l[at] = x
	return l
}

// climbing is a text of bytes one more each, from one on.
func climbing(from byte, n int) string {
	l := make([]byte, n)
	for i := range l {
		l[i] = from + byte(i)
	}
	return string(l)
}

// isKnown tells the known types by where they stand.
func isKnown(t byte) bool {
	return t <= 13 || t == 15 || t == 16 || t >= 245
}

// allTypes are all 512.
func allTypes() []api.Typed {
	var l []api.Typed
	for t := range 256 {
		l = append(l, typed(byte(t)), unsigned(byte(t)))
	}
	return l
}

func knownTypes() []api.Typed {
	return slices.DeleteFunc(allTypes(), func(t api.Typed) bool { return !isKnown(t.Type) })
}

func unknownTypes() []api.Typed {
	return slices.DeleteFunc(allTypes(), func(t api.Typed) bool { return isKnown(t.Type) })
}

// sample is a value of a type, with its bytes and its text, as they were written out by hand; floats and doubles have none.
type sample struct {
	v    api.Value
	of   api.Typed
	put  []byte
	text string
}

// samples are each kind that is not Null, at its least and its greatest.
func samples() []sample {
	return slices.Concat(numberSamples(), whenSamples(), textSamples(), floatSamples())
}

func numberSamples() []sample {
	return []sample{
		{integer(-128), typed(api.TypeTiny), []byte{128}, "-128"},
		{integer(127), typed(api.TypeTiny), []byte{127}, "127"},
		{natural(0), unsigned(api.TypeTiny), []byte{0}, "0"},
		{natural(255), unsigned(api.TypeTiny), []byte{255}, "255"},
		{integer(-32_768), typed(api.TypeShort), []byte{0, 128}, "-32768"},
		{integer(32_767), typed(api.TypeShort), []byte{255, 127}, "32767"},
		{natural(65_535), unsigned(api.TypeShort), []byte{255, 255}, "65535"},
		{integer(-1), typed(api.TypeYear), []byte{255, 255}, "-1"},
		{natural(2026), unsigned(api.TypeYear), []byte{234, 7}, "2026"},
		{integer(math.MinInt32), typed(api.TypeLong), []byte{0, 0, 0, 128}, "-2147483648"},
		{integer(math.MaxInt32), typed(api.TypeLong), []byte{255, 255, 255, 127}, "2147483647"},
		{natural(0), unsigned(api.TypeLong), []byte{0, 0, 0, 0}, "0"},
		{natural(math.MaxUint32), unsigned(api.TypeLong), []byte{255, 255, 255, 255}, "4294967295"},
		{integer(math.MinInt32), typed(api.TypeInt24), []byte{0, 0, 0, 128}, "-2147483648"},
		{natural(math.MaxUint32), unsigned(api.TypeInt24), []byte{255, 255, 255, 255}, "4294967295"},
		{integer(math.MinInt64), typed(api.TypeLongLong), []byte{0, 0, 0, 0, 0, 0, 0, 128}, "-9223372036854775808"},
		{integer(math.MaxInt64), typed(api.TypeLongLong), []byte{255, 255, 255, 255, 255, 255, 255, 127}, "9223372036854775807"},
		{natural(0), unsigned(api.TypeLongLong), []byte{0, 0, 0, 0, 0, 0, 0, 0}, "0"},
		{natural(math.MaxUint64), unsigned(api.TypeLongLong), []byte{255, 255, 255, 255, 255, 255, 255, 255}, "18446744073709551615"},
	}
}

func whenSamples() []sample {
	last := api.When{Year: 9999, Month: 12, Day: 31, Hour: 23, Minute: 59, Second: 59, Micro: 999_999}
	most := api.When{Day: 34, Hour: 23, Minute: 59, Second: 59, Micro: 999_999}
	least := most
	least.Neg = true
	return []sample{
		{date(api.When{}), typed(api.TypeDate), []byte{0}, "0000-00-00"},
		{date(api.When{Year: 9999, Month: 12, Day: 31}), typed(api.TypeDate), []byte{4, 15, 39, 12, 31}, "9999-12-31"},
		{date(api.When{}), typed(api.TypeDateTime), []byte{0}, "0000-00-00 00:00:00"},
		{date(api.When{Year: 2026, Month: 11, Day: 15}), unsigned(api.TypeDateTime), []byte{4, 234, 7, 11, 15}, "2026-11-15 00:00:00"},
		{date(api.When{Second: 1}), typed(api.TypeTimestamp), []byte{7, 0, 0, 0, 0, 0, 0, 1}, "0000-00-00 00:00:01"},
		{date(last), typed(api.TypeTimestamp), []byte{11, 15, 39, 12, 31, 23, 59, 59, 63, 66, 15, 0}, "9999-12-31 23:59:59.999999"},
		{date(last), typed(api.TypeDateTime), []byte{11, 15, 39, 12, 31, 23, 59, 59, 63, 66, 15, 0}, "9999-12-31 23:59:59.999999"},
		{span(least), typed(api.TypeTime), []byte{12, 1, 34, 0, 0, 0, 23, 59, 59, 63, 66, 15, 0}, "-839:59:59.999999"},
		{span(api.When{}), typed(api.TypeTime), []byte{0}, "00:00:00"},
		{span(api.When{Hour: 2, Minute: 3}), unsigned(api.TypeTime), []byte{8, 0, 0, 0, 0, 0, 2, 3, 0}, "02:03:00"},
		{span(most), typed(api.TypeTime), []byte{12, 0, 34, 0, 0, 0, 23, 59, 59, 63, 66, 15, 0}, "839:59:59.999999"},
	}
}

func textSamples() []sample {
	var l []sample
	for _, of := range knownTypes() {
		if of.Type != api.TypeDecimal && of.Type <= 13 {
			continue
		}
		l = append(l, sample{text(""), of, []byte{0}, ""}, sample{text("a\x00\xff"), of, []byte{3, 'a', 0, 255}, "a\x00\xff"})
	}
	plain, long := climbing(5, 250), climbing(9, 251)
	return append(l,
		sample{text(plain), typed(api.TypeBlob), join([]byte{250}, []byte(plain)), plain},
		sample{text(long), typed(api.TypeString), join([]byte{252, 251, 0}, []byte(long)), long},
		sample{text("\xfb"), typed(api.TypeVarChar), []byte{1, 251}, "\xfb"},
	)
}

func floatSamples() []sample {
	return []sample{
		{float(0), typed(api.TypeFloat), []byte{0, 0, 0, 0}, ""},
		{float(1<<32 - 1), unsigned(api.TypeFloat), []byte{255, 255, 255, 255}, ""},
		{double(0), unsigned(api.TypeDouble), []byte{0, 0, 0, 0, 0, 0, 0, 0}, ""},
		{double(math.MaxUint64), typed(api.TypeDouble), []byte{255, 255, 255, 255, 255, 255, 255, 255}, ""},
	}
}

// told are the samples that have a text.
func told() []sample {
	return slices.Concat(numberSamples(), whenSamples(), textSamples())
}

// across takes the samples apart into a row, its types, its values' bytes and the bytes of its text row.
func across(l []sample) (row []api.Value, types []api.Typed, put, texts []byte) {
	for _, x := range l {
		row = append(row, x.v)
		types = append(types, x.of)
		put = append(put, x.put...)
		texts = append(texts, counted(x.text)...)
	}
	return row, types, put, texts
}

// wrongOf are values that may not be of a type: some that may be of none, and those of the other kinds.
func wrongOf(of api.Typed) []api.Value {
	l := []api.Value{{Kind: -1}, {Kind: 8}, {Int: 1}, {Bits: 1}, {Text: "a"}, {When: api.When{Day: 1}}, {When: api.When{Neg: true}}, {Kind: api.ValueText, Text: "a", Int: 1}, {Kind: api.ValueInt, Int: 1, Bits: 1}}
	for _, v := range []api.Value{integer(1), natural(1), float(1), double(1), date(api.When{Day: 1}), span(api.When{Day: 1}), text("a")} {
		if !mayBe(v, of) {
			l = append(l, v)
		}
	}
	return l
}

// textRows are rows of texts and Nulls.
func textRows() [][]api.Value {
	null := api.Value{}
	return [][]api.Value{
		nil,
		list(null),
		list(text("")),
		list(text("a")),
		list(text("\xfb")),
		list(text("a"), null, text("")),
		list(null, null, null),
		list(text(""), text(""), null, text("\x00\xfb\xff")),
		list(text(climbing(0, 250)), null, text(climbing(7, 251)), text(climbing(251, 300))),
		list(text(strings.Repeat("z", 65_535)), text("y")),
	}
}

// binaryRow is a row, and its columns' types.
type binaryRow struct {
	row   []api.Value
	types []api.Typed
}

// binaryRows are rows of all kinds, short ones and such whose bits go over a byte's end, each with Nulls and without.
func binaryRows() []binaryRow {
	l := []binaryRow{{}}
	for _, x := range samples() {
		l = append(l, binaryRow{list(x.v), list(x.of)}, binaryRow{list(api.Value{}), list(x.of)})
	}
	mixed := samples()
	rand.New(rand.NewSource(1)).Shuffle(len(mixed), func(i, j int) { mixed[i], mixed[j] = mixed[j], mixed[i] })
	row, types, _, _ := across(mixed)
	l = append(l, binaryRow{row, types}, binaryRow{times(api.Value{}, len(row)), types})
	for _, n := range []int{2, 5, 6, 7, 13, 14, 15, 21, 22, 23} {
		part, of := row[:n], types[:n]
		l = append(l, binaryRow{part, of}, binaryRow{times(api.Value{}, n), of})
		for i := range n {
			l = append(l, binaryRow{with(part, i, api.Value{}), of}, binaryRow{with(part, i, api.Value{}), with(of, i, typed(api.TypeNull))})
		}
	}
	return l
}

// drawnFrom are the samples, made once.
var drawnFrom = samples()

// drawnType is mostly one of those that the samples have.
func drawnType(r *rand.Rand) api.Typed {
	switch r.Intn(40) {
	case 0:
		return api.Typed{Type: byte(r.Uint32()), Unsigned: r.Intn(2) == 0}
	case 1, 2:
		return typed(api.TypeNull)
	}
	return drawnFrom[r.Intn(len(drawnFrom))].of
}

// drawnValue is mostly one that may be of the type.
func drawnValue(r *rand.Rand, of api.Typed) api.Value {
	if r.Intn(60) == 0 {
		l := wrongOf(of)
		return l[r.Intn(len(l))]
	}
	if r.Intn(4) == 0 {
		return api.Value{}
	}
	var l []api.Value
	for _, x := range drawnFrom {
		if x.of == of {
			l = append(l, x.v)
		}
	}
	if len(l) == 0 {
		return api.Value{}
	}
	return l[r.Intn(len(l))]
}

// drawnRow is short, mostly.
func drawnRow(r *rand.Rand) binaryRow {
	var x binaryRow
	for range r.Intn(9) * (1 + r.Intn(3)) {
		of := drawnType(r)
		x.types = append(x.types, of)
		x.row = append(x.row, drawnValue(r, of))
	}
	if r.Intn(40) == 0 {
		x.row = append(x.row, api.Value{})
	}
	return x
}

// spoilt is b cut, lengthened, with some bytes turned, or as it is.
func spoilt(r *rand.Rand, b []byte) []byte {
	b = bytes.Clone(b)
	switch r.Intn(5) {
	case 0:
		b = b[:r.Intn(len(b)+1)]
	case 1:
		b = append(b, climbing(byte(r.Uint32()), r.Intn(3))...)
	}
	for range r.Intn(3) {
		if len(b) > 0 {
			b[r.Intn(min(len(b), 12))] = drawnByte(r)
		}
	}
	return b
}

// drawnByte is often one at which something hangs.
func drawnByte(r *rand.Rand) byte {
	if r.Intn(3) == 0 {
		return byte(r.Uint32())
	}
	return []byte{0, 0, 0, 1, 2, 3, 4, 7, 8, 11, 12, 64, 128, 250, 251, 252, 253, 254, 255}[r.Intn(19)]
}

// brief is what a failed test tells of something.
func brief(x any) string {
	if row, isRow := x.([]api.Value); isRow {
		for _, v := range row {
			if len(v.Text) > 300 {
				return fmt.Sprintf("a row of %d values, with a text of %d bytes", len(row), len(v.Text))
			}
		}
	}
	if b, isBytes := x.([]byte); isBytes && len(b) > 100 {
		return fmt.Sprintf("%v .. %v (%d bytes)", b[:40], b[len(b)-40:], len(b))
	}
	s := fmt.Sprintf("%+v", x)
	if len(s) > 300 {
		s = s[:150] + " .. " + s[len(s)-150:]
	}
	return s
}
