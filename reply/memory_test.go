package reply_test

import (
	"bytes"
	"testing"

	"sluicegate/api"
	"sluicegate/reply"
)

const spare = 400

// roomy is b with spare room behind it, that is full of a byte.
func roomy(b []byte, x byte) []byte {
	return append(bytes.Clone(b), bytes.Repeat([]byte{x}, spare)...)[:len(b)]
}

// whole is a list with its spare room.
func whole(b []byte) []byte {
	return b[:cap(b)]
}

func spoil(b []byte) {
	for i := range whole(b) {
		whole(b)[i] = 0xee
	}
}

// wantUntouched asks that b, which roomy made, is as it was, its spare room too.
func wantUntouched(t *testing.T, name string, b, was []byte, x byte) {
	t.Helper()
	if !bytes.Equal(b, was) || !bytes.Equal(whole(b)[len(b):len(b)+spare], bytes.Repeat([]byte{x}, spare)) {
		t.Errorf("%s: what was handed in was changed: %s", name, brief(whole(b)))
	}
}

// TestRule4Append leaves what stands in front as it was, its spare room too, and answers bytes that are apart from it and from one another.
func TestRule4Append(t *testing.T) {
	for _, s := range basics() {
		for _, head := range [][]byte{nil, {}, {1, 2, 3}} {
			b := roomy(head, 99)
			want := join(head, s.bytes)
			first, _ := s.put(b)
			second, _ := s.put(b)
			wantUntouched(t, s.name, b, head, 99)
			spoil(first)
			wantUntouched(t, s.name, b, head, 99)
			if !bytes.Equal(second, want) {
				t.Errorf("%s: two answers share memory: %s", s.name, brief(second))
			}
			spoil(b)
			if !bytes.Equal(second, want) {
				t.Errorf("%s: an answer shares memory with what stood in front: %s", s.name, brief(second))
			}
		}
	}
}

// TestRule4Refused leaves what stands in front, and a Track, as they were where a thing may not be.
func TestRule4Refused(t *testing.T) {
	for _, c := range capsSets() {
		b, track := roomy([]byte{1, 2}, 99), roomy([]byte{3, 4}, 77)
		reply.AppendOk(b, c, api.Ok{Track: track}, true)
		reply.AppendErr(b, api.Err{State: "4200"})
		reply.AppendFile(b, "")
		wantUntouched(t, "refused", b, []byte{1, 2}, 99)
		wantUntouched(t, "refused", track, []byte{3, 4}, 77)
	}
}

// TestRule4Track has an OK whose Track has spare room, of no bytes, of some, and of many.
func TestRule4Track(t *testing.T) {
	for _, was := range [][]byte{nil, {}, {5}, climbing(0, 300)} {
		for _, last := range []bool{false, true} {
			o := api.Ok{Affected: 1, Status: changed, Info: "i", Track: roomy(was, 77)}
			want := plainOk(tracks, o, last)
			first, _ := reply.AppendOk(nil, tracks, o, last)
			second, _ := reply.AppendOk(nil, tracks, o, last)
			wantUntouched(t, "Track", o.Track, was, 77)
			spoil(first)
			wantUntouched(t, "Track", o.Track, was, 77)
			spoil(o.Track)
			if !bytes.Equal(second, want) {
				t.Errorf("an answer shares memory with a Track, or with another: %s", brief(second))
			}
		}
	}
}

// TestRule4Read has bytes that are as they were behind a read, and things that are apart from them and from one another.
func TestRule4Read(t *testing.T) {
	for _, s := range basics() {
		for _, was := range [][]byte{s.bytes, s.bytes[:len(s.bytes)-1], append(bytes.Clone(s.bytes), 1)} {
			b := roomy(was, 88)
			s.read(b)
			reply.First(b, files)
			reply.Last(b, 0)
			reply.Last(b, deprecates)
			wantUntouched(t, s.name, b, was, 88)
		}
		b := roomy(s.bytes, 88)
		first, _ := s.read(b)
		second, _ := s.read(b)
		if o, isOk := first.(api.Ok); isOk {
			spoil(o.Track)
		}
		wantUntouched(t, s.name, b, s.bytes, 88)
		spoil(b)
		if !same(second, s.thing) {
			t.Errorf("%s: a thing shares memory with its bytes, or with another: %s", s.name, brief(second))
		}
	}
}

// TestRule4SpareRoomIsNotRead has what is missing, or more, in the spare room.
func TestRule4SpareRoomIsNotRead(t *testing.T) {
	for _, s := range basics() {
		b := join(s.bytes, s.bytes)
		for end := range s.bytes {
			wantPlain(t, s.reading, b[:end:end])
			want, wantE := s.read(b[:end:end])
			if got, e := s.read(b[:end]); !same(got, want) || e != wantE {
				t.Errorf("%s: with spare room behind %d bytes: %s, %v", s.name, end, brief(got), e)
			}
		}
		wantRead(t, s.reading, b[:len(s.bytes)], s.thing)
	}
	eof := []byte{254, 0, 0, 0, 0, 0}
	wantLast(t, eof[:4], 0, api.KindOther)
	wantLast(t, eof[:5], 0, api.KindEof)
	wantFirst(t, eof[1:1], 0, api.KindOther)
	s := ofOk(0, api.Ok{Track: []byte{1, 2}[:0]}, false)
	wantAppend(t, s, []byte{1, 2, 3}[:1], join([]byte{1}, s.bytes))
}

// TestRule6NilAndEmpty are one and the same.
func TestRule6NilAndEmpty(t *testing.T) {
	for _, c := range capsSets() {
		for _, status := range statuses() {
			for _, track := range [][]byte{nil, {}} {
				s := ofOk(c, api.Ok{Status: status, Track: track}, false)
				wantAppend(t, s, nil, s.bytes)
				wantAppend(t, s, []byte{}, s.bytes)
				wantRead(t, s.reading, s.bytes, s.thing)
			}
		}
	}
}
