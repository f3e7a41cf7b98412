package row_test

import (
	"bytes"
	"slices"
	"testing"

	"sluicegate/api"
	"sluicegate/row"
)

const spare = 400

// roomy is a list with spare room behind it, that is full of something.
func roomy[T any](l []T, x T) []T {
	return append(slices.Clone(l), times(x, spare)...)[:len(l)]
}

// full is a list with its spare room.
func full[T any](l []T) []T {
	return l[:cap(l)]
}

func spoil[T any](l []T, x T) {
	for i := range full(l) {
		full(l)[i] = x
	}
}

// wantUntouched asks that a list, which roomy made, is as it was, its spare room too.
func wantUntouched[T comparable](t *testing.T, l, was []T, x T) {
	t.Helper()
	if !slices.Equal(l, was) || !slices.Equal(full(l)[len(l):len(l)+spare], times(x, spare)) {
		t.Errorf("what was handed in was changed: %s", brief(full(l)))
	}
}

// wantApart asks that two answers are as they should be, and share no memory with one another nor with what was handed in, of which spoilIn makes something else.
func wantApart[T comparable](t *testing.T, first, second, want []T, other T, spoilIn func()) {
	t.Helper()
	if !slices.Equal(first, want) {
		t.Errorf("with spare room: %s, want %s", brief(first), brief(want))
	}
	spoil(first, other)
	if !slices.Equal(second, want) {
		t.Errorf("two answers share memory: %s", brief(second))
	}
	spoilIn()
	if !slices.Equal(second, want) {
		t.Errorf("an answer shares memory with what was handed in: %s", brief(second))
	}
}

var (
	oddValue = api.Value{Kind: 3, Text: "odd"}
	oddType  = api.Typed{Type: 77}
)

// TestRule4AppendText leaves what stands in front and the values as they were.
func TestRule4AppendText(t *testing.T) {
	for _, l := range textRows() {
		for _, head := range [][]byte{nil, {}, {1, 2, 3}} {
			b, in := roomy(head, 99), roomy(l, oddValue)
			want, _ := plainAppendText(head, l)
			first, _ := row.AppendText(b, in)
			second, _ := row.AppendText(b, in)
			wantUntouched(t, b, head, 99)
			wantUntouched(t, in, l, oddValue)
			wantApart(t, first, second, want, 0xee, func() {
				wantUntouched(t, b, head, 99)
				spoil(b, 0xee)
				spoil(in, oddValue)
			})
		}
	}
}

// TestRule4AppendBinary leaves what stands in front, the values and the types as they were.
func TestRule4AppendBinary(t *testing.T) {
	for _, x := range binaryRows() {
		for _, head := range [][]byte{nil, {}, {1, 2, 3}} {
			b, in, types := roomy(head, 99), roomy(x.row, oddValue), roomy(x.types, oddType)
			want, _ := plainAppendBinary(head, x.row, x.types)
			first, _ := row.AppendBinary(b, in, types)
			second, _ := row.AppendBinary(b, in, types)
			wantUntouched(t, b, head, 99)
			wantUntouched(t, in, x.row, oddValue)
			wantUntouched(t, types, x.types, oddType)
			wantApart(t, first, second, want, 0xee, func() {
				wantUntouched(t, b, head, 99)
				spoil(b, 0xee)
				spoil(in, oddValue)
				spoil(types, oddType)
			})
		}
	}
}

// TestRule4Refused leaves what stands in front as it was, where a row may not be.
func TestRule4Refused(t *testing.T) {
	b := roomy([]byte{1, 2}, 99)
	in, types := roomy(list(text("a"), integer(300)), oddValue), roomy(times(typed(api.TypeTiny), 2), oddType)
	row.AppendText(b, in)
	row.AppendText(b, times(api.Value{}, 4097))
	row.AppendBinary(b, in, types)
	row.AppendBinary(b, list(integer(1), integer(300)), types)
	row.AppendBinary(b, in[:1], types)
	wantUntouched(t, b, []byte{1, 2}, 99)
	wantUntouched(t, in, list(text("a"), integer(300)), oddValue)
	wantUntouched(t, types, times(typed(api.TypeTiny), 2), oddType)
}

// TestRule4ReadText has bytes that are as they were behind a read, and rows that are apart from them.
func TestRule4ReadText(t *testing.T) {
	for _, l := range textRows() {
		own, _ := plainAppendText(nil, l)
		for _, was := range [][]byte{own[:len(own)/2], join(own, []byte{1}), own} {
			b := roomy(was, 88)
			row.ReadText(b, len(l))
			wantUntouched(t, b, was, 88)
		}
		b := roomy(own, 88)
		first, _ := row.ReadText(b, len(l))
		second, _ := row.ReadText(b, len(l))
		wantApart(t, first, second, l, oddValue, func() { spoil(b, 0xee) })
	}
}

// TestRule4ReadBinary has likewise the bytes and the types, of a row that is turned too.
func TestRule4ReadBinary(t *testing.T) {
	for _, x := range binaryRows() {
		own, _ := plainAppendBinary(nil, x.row, x.types)
		for _, was := range [][]byte{own[:len(own)/2], join(own, []byte{1}), own} {
			b, types := roomy(was, 88), roomy(x.types, oddType)
			row.ReadBinary(b, types)
			row.Turned(b, types)
			wantUntouched(t, b, was, 88)
			wantUntouched(t, types, x.types, oddType)
		}
		b, types := roomy(own, 88), roomy(x.types, oddType)
		first, _ := row.ReadBinary(b, types)
		second, _ := row.ReadBinary(b, types)
		texts, _ := row.Turned(b, types)
		more, _ := row.Turned(b, types)
		wantTexts, _ := plainTurned(own, x.types)
		wantApart(t, first, second, x.row, oddValue, func() {
			spoil(b, 0xee)
			spoil(types, oddType)
		})
		wantApart(t, texts, more, wantTexts, 0xee, func() {})
	}
}

// TestRule4SpareRoomIsNotRead has what is missing in the spare room.
func TestRule4SpareRoomIsNotRead(t *testing.T) {
	for _, l := range textRows() {
		b, _ := plainAppendText(nil, l)
		for _, end := range places(b) {
			wantTextError(t, b[:end], len(l), api.ErrShort)
		}
		wantText(t, join(b, b)[:len(b)], len(l), l)
		in := append(slices.Clone(l), integer(1), text("x"))
		if got, e := row.AppendText(nil, in[:len(l)]); !bytes.Equal(got, b) || e != api.OK {
			t.Errorf("AppendText of %s: %s, %v, want %s", brief(l), brief(got), e, brief(b))
		}
	}
	types := list(typed(api.TypeTiny), typed(api.TypeTiny), typed(14))
	values := list(integer(1), integer(2), integer(3))
	wantBinaryRefused(t, values[:1], types[:2], api.ErrArg)
	wantBinaryRow(t, values[:2], types[:2], []byte{0, 0, 1, 2})
	wantBinaryError(t, []byte{0, 0, 1, 2}[:3], types[:2], api.ErrShort)
	wantBinaryError(t, []byte{0, 0, 1, 2}[:1], types[:2], api.ErrShort)
	wantTurned(t, []byte{0, 0, 1, 2}, types[:2], []byte("\x011\x012"), api.OK)
}

// TestRule6NilAndEmpty are one and the same, handed in.
func TestRule6NilAndEmpty(t *testing.T) {
	for _, b := range [][]byte{nil, {}, make([]byte, 0, 3)} {
		for _, l := range [][]api.Value{nil, {}, make([]api.Value, 0, 3)} {
			if got, e := row.AppendText(b, l); len(got) != 0 || e != api.OK {
				t.Errorf("AppendText of nothing: %v, %v", got, e)
			}
			for _, types := range [][]api.Typed{nil, {}, make([]api.Typed, 0, 3)} {
				if got, e := row.AppendBinary(b, l, types); !bytes.Equal(got, []byte{0, 0}) || e != api.OK {
					t.Errorf("AppendBinary of nothing: %v, %v", got, e)
				}
				wantBinaryError(t, b, types, api.ErrShort)
				wantBinary(t, []byte{0, 0}, types, nil)
				wantTurned(t, []byte{0, 0}, types, nil, api.OK)
			}
		}
		wantText(t, b, 0, nil)
		wantTextError(t, b, 1, api.ErrShort)
	}
}
