package param_test

import (
	"bytes"
	"fmt"
	"math"
	"math/rand"
	"slices"

	"sluicegate/api"
)

func typed(t byte) api.Typed {
	return api.Typed{Type: t}
}

func unsigned(t byte) api.Typed {
	return api.Typed{Type: t, Unsigned: true}
}

func integer(x int64) api.Value {
	return api.Value{Kind: api.ValueInt, Int: x}
}

func natural(x uint64) api.Value {
	return api.Value{Kind: api.ValueUint, Bits: x}
}

func float(x uint64) api.Value {
	return api.Value{Kind: api.ValueFloat, Bits: x}
}

func double(x uint64) api.Value {
	return api.Value{Kind: api.ValueDouble, Bits: x}
}

func text(s string) api.Value {
	return api.Value{Kind: api.ValueText, Text: s}
}

func date(w api.When) api.Value {
	return api.Value{Kind: api.ValueDate, When: w}
}

func span(w api.When) api.Value {
	return api.Value{Kind: api.ValueTime, When: w}
}

// given is a parameter that has a value.
func given(of api.Typed, v api.Value) api.Param {
	return api.Param{Typed: of, Value: v}
}

// null is a parameter that is Null.
func null(of api.Typed) api.Param {
	return api.Param{Typed: of}
}

// long is a parameter whose value came as long data.
func long(of api.Typed) api.Param {
	return api.Param{Typed: of, Long: true}
}

// tiny is a parameter of one byte.
func tiny(x int64) api.Param {
	return given(typed(api.TypeTiny), integer(x))
}

// list is a list that is written out.
func list[T any](l ...T) []T {
	return l
}

// times is a list of one thing n times.
func times[T any](x T, n int) []T {
	return slices.Repeat([]T{x}, n)
}

func join(parts ...[]byte) []byte {
	return slices.Concat(parts...)
}

// with is a list with another thing at a place.
func with[T any](l []T, at int, x T) []T {
	l = slices.Clone(l)
	l[at] = x
	return l
}

// typesOf are the types of a list of parameters.
func typesOf(l []api.Param) []api.Typed {
	var types []api.Typed
	for _, p := range l {
		types = append(types, p.Typed)
	}
	return types
}

// longOf are which of a list of parameters are Long.
func longOf(l []api.Param) []bool {
	var is []bool
	for _, p := range l {
		is = append(is, p.Long)
	}
	return is
}

// climbing is a text of bytes one more each, from one on.
func climbing(from byte, n int) string {
	l := make([]byte, n)
	for i := range l {
		l[i] = from + byte(i)
	}
	return string(l)
}

// isKnown tells the known types by where they stand.
func isKnown(t byte) bool {
	return t <= 13 || t == 15 || t == 16 || t >= 245
}

// allTypes are all 512.
func allTypes() []api.Typed {
	var l []api.Typed
	for t := range 256 {
		l = append(l, typed(byte(t)), unsigned(byte(t)))
	}
	return l
}

func knownTypes() []api.Typed {
	return slices.DeleteFunc(allTypes(), func(t api.Typed) bool { return !isKnown(t.Type) })
}

func unknownTypes() []api.Typed {
	return slices.DeleteFunc(allTypes(), func(t api.Typed) bool { return isKnown(t.Type) })
}

// sample is a parameter that has a value, and that value's bytes, as they were written out by hand.
type sample struct {
	p   api.Param
	put []byte
}

// samples are each kind that is not Null, with a sign and without, at its ends.
func samples() []sample {
	return slices.Concat(numberSamples(), whenSamples(), textSamples())
}

func numberSamples() []sample {
	return []sample{
		{given(typed(api.TypeTiny), integer(-128)), []byte{128}},
		{given(unsigned(api.TypeTiny), natural(255)), []byte{255}},
		{given(typed(api.TypeShort), integer(32_767)), []byte{255, 127}},
		{given(unsigned(api.TypeShort), natural(0)), []byte{0, 0}},
		{given(typed(api.TypeYear), integer(-1)), []byte{255, 255}},
		{given(unsigned(api.TypeYear), natural(2026)), []byte{234, 7}},
		{given(typed(api.TypeLong), integer(math.MinInt32)), []byte{0, 0, 0, 128}},
		{given(unsigned(api.TypeLong), natural(math.MaxUint32)), []byte{255, 255, 255, 255}},
		{given(typed(api.TypeInt24), integer(1)), []byte{1, 0, 0, 0}},
		{given(unsigned(api.TypeInt24), natural(1<<31)), []byte{0, 0, 0, 128}},
		{given(typed(api.TypeLongLong), integer(math.MinInt64)), []byte{0, 0, 0, 0, 0, 0, 0, 128}},
		{given(unsigned(api.TypeLongLong), natural(math.MaxUint64)), times(byte(255), 8)},
		{given(typed(api.TypeFloat), float(1<<32-1)), times(byte(255), 4)},
		{given(unsigned(api.TypeFloat), float(0)), times(byte(0), 4)},
		{given(typed(api.TypeDouble), double(0)), times(byte(0), 8)},
		{given(unsigned(api.TypeDouble), double(1)), []byte{1, 0, 0, 0, 0, 0, 0, 0}},
	}
}

func whenSamples() []sample {
	last := api.When{Year: 9999, Month: 12, Day: 31, Hour: 23, Minute: 59, Second: 59, Micro: 999_999}
	least := api.When{Neg: true, Day: 34, Hour: 23, Minute: 59, Second: 59, Micro: 999_999}
	return []sample{
		{given(typed(api.TypeDate), date(api.When{})), []byte{0}},
		{given(unsigned(api.TypeDate), date(api.When{Year: 2026, Month: 11, Day: 15})), []byte{4, 234, 7, 11, 15}},
		{given(typed(api.TypeDateTime), date(last)), []byte{11, 15, 39, 12, 31, 23, 59, 59, 63, 66, 15, 0}},
		{given(unsigned(api.TypeDateTime), date(api.When{})), []byte{0}},
		{given(typed(api.TypeTimestamp), date(api.When{Second: 1})), []byte{7, 0, 0, 0, 0, 0, 0, 1}},
		{given(unsigned(api.TypeTimestamp), date(api.When{Day: 1})), []byte{4, 0, 0, 0, 1}},
		{given(typed(api.TypeTime), span(least)), []byte{12, 1, 34, 0, 0, 0, 23, 59, 59, 63, 66, 15, 0}},
		{given(unsigned(api.TypeTime), span(api.When{Hour: 2, Minute: 3})), []byte{8, 0, 0, 0, 0, 0, 2, 3, 0}},
		{given(typed(api.TypeTime), span(api.When{})), []byte{0}},
	}
}

func textSamples() []sample {
	var l []sample
	for _, of := range knownTypes() {
		if of.Type == api.TypeDecimal || of.Type > api.TypeYear {
			l = append(l, sample{given(of, text("")), []byte{0}}, sample{given(of, text("a\x00\xff")), []byte{3, 'a', 0, 255}})
		}
	}
	plain, more := climbing(5, 250), climbing(9, 251)
	return append(l,
		sample{given(typed(api.TypeBlob), text(plain)), join([]byte{250}, []byte(plain))},
		sample{given(typed(api.TypeString), text(more)), join([]byte{252, 251, 0}, []byte(more))},
		sample{given(typed(api.TypeVarChar), text("\xfb")), []byte{1, 251}},
	)
}

// across takes the samples apart into their parameters, the bytes of their types and the bytes of their values.
func across(l []sample) (params []api.Param, types, put []byte) {
	for _, x := range l {
		params = append(params, x.p)
		types = append(types, typeBytes(x.p.Typed)...)
		put = append(put, x.put...)
	}
	return params, types, put
}

// typeBytes are the two bytes of a type that is told.
func typeBytes(of api.Typed) []byte {
	if of.Unsigned {
		return []byte{of.Type, 128}
	}
	return []byte{of.Type, 0}
}

// wrongOf are values that may not be of a type: some that may be of none, and those of the other kinds.
func wrongOf(of api.Typed) []api.Value {
	l := []api.Value{{Kind: -1}, {Kind: 8}, {Kind: math.MinInt64}, {Int: 1}, {Bits: 1}, {Text: "a"}, {When: api.When{Day: 1}}, {When: api.When{Neg: true}}, {Kind: api.ValueText, Text: "a", Int: 1}, {Kind: api.ValueInt, Int: 1, Bits: 1}}
	for _, v := range []api.Value{integer(1), natural(1), float(1), double(1), date(api.When{Day: 1}), span(api.When{Day: 1}), text("a")} {
		if !mayBe(v, of) {
			l = append(l, v)
		}
	}
	return l
}

// lists are lists of parameters that may be: each sample, Null and Long ones of its type, and such whose bits go over a byte's end.
func lists() [][]api.Param {
	l := [][]api.Param{nil}
	for _, x := range samples() {
		l = append(l, list(x.p), list(x.p, null(x.p.Typed)), list(long(x.p.Typed), x.p))
	}
	for _, of := range knownTypes() {
		l = append(l, list(null(of)), list(long(of)), list(long(of), null(of), tiny(1)))
	}
	mixed := samples()
	rand.New(rand.NewSource(1)).Shuffle(len(mixed), func(i, j int) { mixed[i], mixed[j] = mixed[j], mixed[i] })
	all, _, _ := across(mixed)
	l = append(l, all)
	for _, n := range []int{2, 7, 8, 9, 15, 16, 17} {
		part := all[:n]
		l = append(l, part)
		for i, p := range part {
			other := (i + 1) % n
			l = append(l, with(part, i, null(p.Typed)), with(part, i, long(p.Typed)))
			l = append(l, with(with(part, i, null(typed(api.TypeNull))), other, long(part[other].Typed)))
		}
	}
	return l
}

// drawnFrom are the samples, made once.
var drawnFrom = samples()

// drawnParam is mostly one that may be.
func drawnParam(r *rand.Rand) api.Param {
	p := drawnFrom[r.Intn(len(drawnFrom))].p
	switch r.Intn(60) {
	case 0:
		wrong := wrongOf(p.Typed)
		p.Value = wrong[r.Intn(len(wrong))]
	case 1:
		p.Typed = api.Typed{Type: byte(r.Uint32()), Unsigned: r.Intn(2) == 0}
	case 2:
		p.Long = true
	case 3, 4, 5, 6:
		p = null(typed(api.TypeNull))
	case 7:
		p = long(typed(api.TypeNull))
	}
	switch r.Intn(5) {
	case 0:
		return null(p.Typed)
	case 1:
		return long(p.Typed)
	}
	return p
}

// drawnParams are few, mostly.
func drawnParams(r *rand.Rand) []api.Param {
	var l []api.Param
	for range r.Intn(9) * (1 + r.Intn(3)) {
		l = append(l, drawnParam(r))
	}
	return l
}

// drawnTypes are mostly those of the parameters, at times fewer, more, or with another one.
func drawnTypes(r *rand.Rand, l []api.Param) []api.Typed {
	types := typesOf(l)
	switch r.Intn(12) {
	case 0:
		return types[:r.Intn(len(types)+1)]
	case 1, 2:
		return append(types, api.Typed{Type: byte(r.Uint32())})
	case 3:
		if len(types) > 0 {
			types[r.Intn(len(types))] = list(typed(14), typed(api.TypeNull), typed(api.TypeDate), unsigned(244))[r.Intn(4)]
		}
	}
	return types
}

// drawnLong are mostly those of the parameters, at times fewer, more, or with another one.
func drawnLong(r *rand.Rand, l []api.Param) []bool {
	is := longOf(l)
	switch r.Intn(12) {
	case 0:
		return is[:r.Intn(len(is)+1)]
	case 1, 2:
		return append(is, true, true)
	case 3:
		if len(is) > 0 {
			at := r.Intn(len(is))
			is[at] = !is[at]
		}
	}
	return is
}

// spoilt is b cut, lengthened, with some bytes turned, or as it is.
func spoilt(r *rand.Rand, b []byte) []byte {
	b = bytes.Clone(b)
	switch r.Intn(5) {
	case 0:
		b = b[:r.Intn(len(b)+1)]
	case 1:
		b = append(b, climbing(byte(r.Uint32()), r.Intn(3))...)
	}
	for range r.Intn(3) {
		if len(b) > 0 {
			b[r.Intn(min(len(b), 20))] = drawnByte(r)
		}
	}
	return b
}

// drawnByte is often one at which something hangs.
func drawnByte(r *rand.Rand) byte {
	if r.Intn(3) == 0 {
		return byte(r.Uint32())
	}
	return []byte{0, 0, 0, 1, 1, 2, 3, 4, 6, 6, 10, 11, 12, 14, 64, 127, 128, 129, 250, 251, 252, 253, 254, 255}[r.Intn(24)]
}

// brief is what a failed test tells of something.
func brief(x any) string {
	if b, isBytes := x.([]byte); isBytes && len(b) > 100 {
		return fmt.Sprintf("%v .. %v (%d bytes)", b[:40], b[len(b)-40:], len(b))
	}
	if l, isParams := x.([]api.Param); isParams && len(l) > 30 {
		return fmt.Sprintf("%d parameters", len(l))
	}
	s := fmt.Sprintf("%+v", x)
	if len(s) > 300 {
		s = s[:150] + " .. " + s[len(s)-150:]
	}
	return s
}
