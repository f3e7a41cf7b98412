package column_test

import (
	"bytes"
	"testing"

	"sluicegate/api"
	"sluicegate/column"
)

const spare = 1500

// roomy is b with spare room behind it, that is full of a byte.
func roomy(b []byte, x byte) []byte {
	return append(bytes.Clone(b), bytes.Repeat([]byte{x}, spare)...)[:len(b)]
}

// whole is a list with its spare room.
func whole(b []byte) []byte {
	return b[:cap(b)]
}

func spoil(b []byte) {
	for i := range whole(b) {
		whole(b)[i] = 0xee
	}
}

// wantUntouched asks that b, which roomy made, is as it was, its spare room too.
func wantUntouched(t *testing.T, b, was []byte, x byte) {
	t.Helper()
	if !bytes.Equal(b, was) || !bytes.Equal(whole(b)[len(b):len(b)+spare], bytes.Repeat([]byte{x}, spare)) {
		t.Errorf("what was handed in was changed: %s", brief(whole(b)))
	}
}

// appends are calls that put something behind bytes, with what they put.
func appends() []putting {
	var l []putting
	for _, c := range append(basics(), most()) {
		l = append(l, putting{func(b []byte) ([]byte, api.Errno) { return column.Append(b, c) }, plainBytes(c)})
	}
	for _, n := range []int{1, 250, 251, 4096} {
		l = append(l, putting{func(b []byte) ([]byte, api.Errno) { return column.AppendCount(b, n) }, forms(uint64(n))[0]})
	}
	return l
}

type putting struct {
	put   func(b []byte) ([]byte, api.Errno)
	bytes []byte
}

// TestRule4Append leaves what stands in front as it was, its spare room too, and answers bytes that are apart from it and from one another.
func TestRule4Append(t *testing.T) {
	for _, p := range appends() {
		for _, head := range [][]byte{nil, {}, {1, 2, 3}} {
			b := roomy(head, 99)
			want := join(head, p.bytes)
			first, _ := p.put(b)
			second, _ := p.put(b)
			if !bytes.Equal(first, want) {
				t.Errorf("with spare room: %s, want %s", brief(first), brief(want))
			}
			wantUntouched(t, b, head, 99)
			spoil(first)
			wantUntouched(t, b, head, 99)
			if !bytes.Equal(second, want) {
				t.Errorf("two answers share memory: %s", brief(second))
			}
			spoil(b)
			if !bytes.Equal(second, want) {
				t.Errorf("an answer shares memory with what stood in front: %s", brief(second))
			}
		}
	}
}

// TestRule4Refused leaves what stands in front as it was, where a column or a count may not be.
func TestRule4Refused(t *testing.T) {
	b := roomy([]byte{1, 2}, 99)
	column.Append(b, withType(basic(), 14))
	column.Append(b, withText(basic(), 4, climbing(0, 256)))
	column.AppendCount(b, 0)
	column.AppendCount(b, 4097)
	wantUntouched(t, b, []byte{1, 2}, 99)
}

// TestRule4Read has bytes that are as they were behind a read, and columns that are apart from them.
func TestRule4Read(t *testing.T) {
	for _, c := range append(basics(), most()) {
		own := plainBytes(c)
		for _, was := range [][]byte{own, own[:len(own)-1], append(bytes.Clone(own), 1)} {
			b := roomy(was, 88)
			column.Read(b)
			column.ReadCount(b)
			wantUntouched(t, b, was, 88)
		}
		b := roomy(own, 88)
		got, _ := column.Read(b)
		spoil(b)
		if got != c {
			t.Errorf("a column shares memory with its bytes: %s", brief(got))
		}
	}
}

// TestRule4SpareRoomIsNotRead has what is missing, or more, in the spare room.
func TestRule4SpareRoomIsNotRead(t *testing.T) {
	for _, c := range basics() {
		own := plainBytes(c)
		b := join(own, own)
		for end := range own {
			wantError(t, b[:end], api.ErrShort)
		}
		wantRead(t, b[:len(own)], c)
	}
	count := []byte{252, 44, 1, 0}
	wantReadCount(t, count[:0], 0, api.ErrShort)
	wantReadCount(t, count[:2], 0, api.ErrShort)
	wantReadCount(t, count[:3], 300, api.OK)
}

// TestRule6NilAndEmpty are one and the same, handed in.
func TestRule6NilAndEmpty(t *testing.T) {
	for _, p := range appends() {
		for _, b := range [][]byte{nil, {}, make([]byte, 0, 3)} {
			if got, e := p.put(b); !bytes.Equal(got, p.bytes) || e != api.OK {
				t.Errorf("behind nothing: %s, %v", brief(got), e)
			}
		}
	}
	wantError(t, nil, api.ErrShort)
	wantError(t, []byte{}, api.ErrShort)
	wantReadCount(t, nil, 0, api.ErrShort)
	wantReadCount(t, []byte{}, 0, api.ErrShort)
}
