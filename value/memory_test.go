package value_test

import (
	"bytes"
	"testing"

	"sluicegate/api"
	"sluicegate/value"
)

const spare = 400

// roomy is b with spare room behind it, that is full of a byte.
func roomy(b []byte, x byte) []byte {
	return append(bytes.Clone(b), bytes.Repeat([]byte{x}, spare)...)[:len(b)]
}

// full is a list with its spare room.
func full(b []byte) []byte {
	return b[:cap(b)]
}

func spoil(b []byte) {
	for i := range full(b) {
		full(b)[i] = 0xee
	}
}

// wantUntouched asks that b, which roomy made, is as it was, its spare room too.
func wantUntouched(t *testing.T, b, was []byte, x byte) {
	t.Helper()
	if !bytes.Equal(b, was) || !bytes.Equal(full(b)[len(b):len(b)+spare], bytes.Repeat([]byte{x}, spare)) {
		t.Errorf("what was handed in was changed: %s", brief(full(b)))
	}
}

// TestRule4Append leaves what stands in front as it was, its spare room too, and answers bytes that are apart from it and from one another.
func TestRule4Append(t *testing.T) {
	for _, of := range fewTypes() {
		for _, v := range fewOf(of) {
			for _, head := range [][]byte{nil, {}, {1, 2, 3}} {
				b := roomy(head, 99)
				want := join(head, plainBytes(v, of))
				first, _ := value.Append(b, v, of)
				second, _ := value.Append(b, v, of)
				if !bytes.Equal(first, want) {
					t.Errorf("with spare room: %s, want %s", brief(first), brief(want))
				}
				wantUntouched(t, b, head, 99)
				spoil(first)
				wantUntouched(t, b, head, 99)
				if !bytes.Equal(second, want) {
					t.Errorf("two answers share memory: %s", brief(second))
				}
				spoil(b)
				if !bytes.Equal(second, want) {
					t.Errorf("an answer shares memory with what stood in front: %s", brief(second))
				}
			}
		}
	}
}

// TestRule4Refused leaves what stands in front as it was, where a value may not be.
func TestRule4Refused(t *testing.T) {
	b := roomy([]byte{1, 2}, 99)
	value.Append(b, integer(128), typed(api.TypeTiny))
	value.Append(b, api.Value{}, typed(api.TypeTiny))
	value.Append(b, text("a"), typed(14))
	value.Append(b, negative(span()), typed(api.TypeTime))
	wantUntouched(t, b, []byte{1, 2}, 99)
}

// TestRule4Read has bytes that are as they were behind a read, and values that are apart from them.
func TestRule4Read(t *testing.T) {
	for _, of := range fewTypes() {
		for _, v := range fewOf(of) {
			own := plainBytes(v, of)
			for _, was := range [][]byte{own, own[:len(own)/2], append(bytes.Clone(own), 1)} {
				b := roomy(was, 88)
				value.Read(b, of)
				wantUntouched(t, b, was, 88)
			}
			b := roomy(own, 88)
			got, _, _ := value.Read(b, of)
			spoil(b)
			if got != v {
				t.Errorf("a value shares memory with its bytes: %s", brief(got))
			}
		}
	}
}

// TestRule4SpareRoomIsNotRead has what is missing in the spare room.
func TestRule4SpareRoomIsNotRead(t *testing.T) {
	for _, of := range fewTypes() {
		for _, v := range fewOf(of) {
			own := plainBytes(v, of)
			b := join(own, own)
			for end := range own {
				wantError(t, b[:end], of, api.ErrShort)
			}
			wantRead(t, b[:len(own)], of, v, len(own))
		}
	}
}

// TestRule6NilAndEmpty are one and the same, handed in.
func TestRule6NilAndEmpty(t *testing.T) {
	for _, of := range fewTypes() {
		for _, v := range fewOf(of) {
			for _, b := range [][]byte{nil, {}, make([]byte, 0, 3)} {
				wantAppend(t, b, v, of, plainBytes(v, of))
			}
		}
		want, n, e := value.Read(nil, of)
		if v, m, f := value.Read([]byte{}, of); v != want || m != n || f != e {
			t.Errorf("Read of nothing as %v: %s, %d, %v, and %s, %d, %v", of, brief(v), m, f, brief(want), n, e)
		}
	}
}
