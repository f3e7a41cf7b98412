package param_test

import (
	"slices"
	"testing"

	"sluicegate/api"
	"sluicegate/param"
)

const spare = 400

// roomy is a list with spare room behind it, that is full of something.
func roomy[T any](l []T, x T) []T {
	return append(slices.Clone(l), times(x, spare)...)[:len(l)]
}

// full is a list with its spare room.
func full[T any](l []T) []T {
	return l[:cap(l)]
}

func spoil[T any](l []T, x T) {
	for i := range full(l) {
		full(l)[i] = x
	}
}

// wantUntouched asks that a list, which roomy made, is as it was, its spare room too.
func wantUntouched[T comparable](t *testing.T, l, was []T, x T) {
	t.Helper()
	if !slices.Equal(l, was) || !slices.Equal(full(l)[len(l):len(l)+spare], times(x, spare)) {
		t.Errorf("what was handed in was changed: %s", brief(full(l)))
	}
}

// wantApart asks that two answers are as they should be, and share no memory with one another nor with what was handed in, of which spoilIn makes something else.
func wantApart[T comparable](t *testing.T, first, second, want []T, other T, spoilIn func()) {
	t.Helper()
	if !slices.Equal(first, want) {
		t.Errorf("with spare room: %s, want %s", brief(first), brief(want))
	}
	spoil(first, other)
	if !slices.Equal(second, want) {
		t.Errorf("two answers share memory: %s", brief(second))
	}
	spoilIn()
	if !slices.Equal(second, want) {
		t.Errorf("an answer shares memory with what was handed in: %s", brief(second))
	}
}

var (
	oddParam = api.Param{Typed: api.Typed{Type: 77}, Long: true, Value: api.Value{Kind: 3, Text: "odd"}}
	oddType  = api.Typed{Type: 77}
)

// TestRule4Append leaves what stands in front and the parameters as they were.
func TestRule4Append(t *testing.T) {
	for _, l := range lists() {
		for _, head := range [][]byte{nil, {}, {1, 2, 3}} {
			for _, bound := range both {
				b, in := roomy(head, 99), roomy(l, oddParam)
				want, _ := plainAppend(head, l, bound)
				first, _ := param.Append(b, in, bound)
				second, _ := param.Append(b, in, bound)
				wantUntouched(t, b, head, 99)
				wantUntouched(t, in, l, oddParam)
				wantApart(t, first, second, want, 0xee, func() {
					wantUntouched(t, b, head, 99)
					spoil(b, 0xee)
					spoil(in, oddParam)
				})
			}
		}
	}
}

// TestRule4Refused leaves what was handed in as it was, where a list may not be.
func TestRule4Refused(t *testing.T) {
	for _, was := range [][]api.Param{list(tiny(1), tiny(300)), list(tiny(1), null(typed(14))), times(tiny(1), 65_536)} {
		b, in := roomy([]byte{1, 2}, 99), roomy(was, oddParam)
		for _, bound := range both {
			param.Append(b, in, bound)
		}
		wantUntouched(t, b, []byte{1, 2}, 99)
		wantUntouched(t, in, was, oddParam)
	}
}

// TestRule4Read has bytes, types and Long ones that are as they were behind a read, and parameters that are apart from them.
func TestRule4Read(t *testing.T) {
	for _, l := range lists() {
		for _, bound := range both {
			own, _ := plainAppend(nil, l, bound)
			n := len(l)
			for _, was := range [][]byte{own[:len(own)/2], join(own, []byte{1}), own} {
				b, types, is := roomy(was, 88), roomy(typesOf(l), oddType), roomy(longOf(l), true)
				param.Read(b, n, types, is)
				wantUntouched(t, b, was, 88)
				wantUntouched(t, types, typesOf(l), oddType)
				wantUntouched(t, is, longOf(l), true)
			}
			b, types, is := roomy(own, 88), roomy(typesOf(l), oddType), roomy(longOf(l), true)
			first, _, _ := param.Read(b, n, types, is)
			second, _, _ := param.Read(b, n, types, is)
			wantApart(t, first, second, l, oddParam, func() {
				wantUntouched(t, b, own, 88)
				wantUntouched(t, types, typesOf(l), oddType)
				spoil(b, 0xee)
				spoil(types, oddType)
				spoil(is, true)
			})
		}
	}
}

// TestRule4SpareRoomIsNotRead has what is missing, or what would be wrong, in the spare room.
func TestRule4SpareRoomIsNotRead(t *testing.T) {
	of := typed(api.TypeTiny)
	types := list(of, of, typed(14))
	b := []byte{0, 0, 1, 2, 3}
	wantRead(t, b[:4], 2, types[:2], list(false, false, true)[:2], list(tiny(1), tiny(2)), false)
	wantRead(t, b[:4], 2, types[:2], list(true, true)[:0], list(tiny(1), tiny(2)), false)
	wantError(t, b[:4], 2, types[:1], nil, api.ErrBad)
	wantError(t, b[:3], 2, types[:2], nil, api.ErrShort)
	wantError(t, b[:1], 2, types[:2], nil, api.ErrShort)
	wantError(t, b[:0], 2, types[:2], nil, api.ErrShort)
	wantRead(t, b[:0], 0, types[:0], nil, nil, false)
	l := list(tiny(1), tiny(2), null(typed(14)))
	wantData(t, l[:2], false, []byte{0, 0, 1, 2})
	wantData(t, l[:0], true, nil)
}

// TestRule6NilAndEmpty are one and the same, handed in.
func TestRule6NilAndEmpty(t *testing.T) {
	for _, b := range [][]byte{nil, {}, make([]byte, 0, 3)} {
		for _, l := range [][]api.Param{nil, {}, make([]api.Param, 0, 3)} {
			for _, bound := range both {
				if got, e := param.Append(b, l, bound); len(got) != 0 || e != api.OK {
					t.Errorf("Append of nothing: %v, %v", got, e)
				}
			}
		}
		for _, types := range [][]api.Typed{nil, {}, make([]api.Typed, 0, 3)} {
			for _, is := range [][]bool{nil, {}, make([]bool, 0, 3)} {
				wantRead(t, b, 0, types, is, nil, false)
				wantError(t, b, 1, types, is, api.ErrShort)
				wantError(t, []byte{1, 0}, 1, types, is, api.ErrBad)
				wantRead(t, []byte{1, 1, 1, 0}, 1, types, is, list(null(typed(api.TypeTiny))), true)
			}
		}
	}
}
