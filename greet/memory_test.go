package greet_test

import (
	"bytes"
	"slices"
	"testing"

	"sluicegate/api"
	"sluicegate/greet"
)

// roomy is b with spare room behind it, that is full of a byte.
func roomy(b []byte, x byte) []byte {
	return append(bytes.Clone(b), bytes.Repeat([]byte{x}, 400)...)[:len(b)]
}

func roomyAttrs(l []api.Attr) []api.Attr {
	spare := slices.Repeat([]api.Attr{{Name: "spare", Value: "room"}}, 9)
	return append(slices.Clone(l), spare...)[:len(l)]
}

// whole is a list with its spare room.
func whole[T any](l []T) []T {
	return l[:cap(l)]
}

// lists is the lists that a thing has.
func lists(thing any) ([][]byte, []api.Attr) {
	switch x := thing.(type) {
	case api.Greeting:
		return [][]byte{x.Nonce}, nil
	case api.Answer:
		return [][]byte{x.Response}, x.Attrs
	case api.Switch:
		return [][]byte{x.Nonce}, nil
	case api.ChangeUser:
		return [][]byte{x.Response}, x.Attrs
	case []byte:
		return [][]byte{x}, nil
	}
	return nil, nil
}

// spoil writes over all lists of a thing, and over their spare room.
func spoil(thing any) {
	l, attrs := lists(thing)
	for _, b := range l {
		spoilBytes(b)
	}
	for i := range whole(attrs) {
		whole(attrs)[i] = api.Attr{Name: "spoilt", Value: "spoilt"}
	}
}

func spoilBytes(b []byte) {
	for i := range whole(b) {
		whole(b)[i] = 0xee
	}
}

// roomySamples have lists with spare room.
func roomySamples() []sample {
	g, a, s, u := basicGreeting(), basicAnswer(), basicSwitch(), basicChange()
	g.Nonce, s.Nonce = roomy(g.Nonce, 77), roomy(s.Nonce, 77)
	a.Response, a.Attrs = roomy(a.Response, 77), roomyAttrs(a.Attrs)
	u.Response, u.Attrs = roomy(u.Response, 77), roomyAttrs(u.Attrs)
	plain := basicAnswer()
	plain.Caps &^= api.CapLenencAuth
	plain.Response, plain.Attrs = roomy(plain.Response, 77), roomyAttrs(plain.Attrs)
	return []sample{ofGreeting(g), ofAnswer(a), ofAnswer(plain), ofSwitch(s), ofMore(roomy([]byte{3, 4}, 77)), ofChange(full, u)}
}

// TestRule4Append leaves what was handed in as it was, its spare room too, and answers bytes that are apart from it and from one another.
func TestRule4Append(t *testing.T) {
	for _, s := range roomySamples() {
		for _, head := range [][]byte{nil, {}, {1, 2, 3}} {
			b := roomy(head, 99)
			first, _ := s.put(b)
			second, _ := s.put(b)
			if !bytes.Equal(b, head) || !bytes.Equal(whole(b)[len(b):len(b)+400], bytes.Repeat([]byte{99}, 400)) {
				t.Errorf("%s: what stood in front was changed: %v", s.name, whole(b))
			}
			spoilBytes(first)
			want := join(head, s.bytes)
			if !bytes.Equal(second, want) {
				t.Errorf("%s: two answers share memory: %s", s.name, brief(second))
			}
			spoilBytes(b)
			if !bytes.Equal(second, want) {
				t.Errorf("%s: an answer shares memory with what stood in front: %s", s.name, brief(second))
			}
		}
	}
}

func TestRule4AppendLeavesThings(t *testing.T) {
	for _, s := range roomySamples() {
		out, _ := s.put(nil)
		wantUntouched(t, s)
		spoilBytes(out)
		wantUntouched(t, s)
		out, _ = s.put([]byte{1})
		spoil(s.thing)
		if !bytes.Equal(out, append([]byte{1}, s.bytes...)) {
			t.Errorf("%s: an answer shares memory with the thing: %s", s.name, brief(out))
		}
	}
}

// wantUntouched asks that a sample of roomySamples is as it was made.
func wantUntouched(t *testing.T, s sample) {
	t.Helper()
	if again, e := s.put(nil); e != api.OK || !bytes.Equal(again, s.bytes) {
		t.Errorf("%s: the thing was changed: %s, %v", s.name, brief(again), e)
	}
	l, attrs := lists(s.thing)
	for _, b := range l {
		if spare := whole(b)[len(b) : len(b)+400]; !bytes.Equal(spare, bytes.Repeat([]byte{77}, 400)) {
			t.Errorf("%s: spare room was changed: %v", s.name, spare)
		}
	}
	if attrs == nil {
		return
	}
	for _, a := range whole(attrs)[len(attrs) : len(attrs)+9] {
		if a.Name != "spare" || a.Value != "room" {
			t.Errorf("%s: spare room was changed: %v", s.name, a)
		}
	}
}

// TestRule4Read has bytes that are as they were behind a read, and things that are apart from them and from one another.
func TestRule4Read(t *testing.T) {
	for _, s := range samples() {
		for _, original := range [][]byte{s.bytes, s.bytes[:len(s.bytes)-1], append(bytes.Clone(s.bytes), 1)} {
			b := roomy(original, 88)
			s.read(b)
			if !bytes.Equal(b, original) || !bytes.Equal(whole(b)[len(b):len(b)+400], bytes.Repeat([]byte{88}, 400)) {
				t.Errorf("%s: the bytes were changed", s.name)
			}
		}
		b := roomy(s.bytes, 88)
		first, _ := s.read(b)
		second, _ := s.read(b)
		spoil(first)
		if !bytes.Equal(b, s.bytes) || !bytes.Equal(whole(b)[len(b):len(b)+400], bytes.Repeat([]byte{88}, 400)) {
			t.Errorf("%s: a thing shares memory with its bytes", s.name)
		}
		spoilBytes(b)
		if !same(second, s.thing) {
			t.Errorf("%s: a thing shares memory with its bytes, or with another: %v", s.name, second)
		}
	}
}

// TestRule4SpareRoomIsNotRead has what is missing in the spare room, of all lists.
func TestRule4SpareRoomIsNotRead(t *testing.T) {
	for _, s := range joined(greetings(), answers(), switches(), changes()) {
		b := append(bytes.Clone(s.bytes), s.bytes...)
		for end := range s.bytes {
			wantError(t, "the rest in the spare room", s, b[:end], api.ErrShort)
		}
		wantRead(t, "more in the spare room", s, b[:len(s.bytes)], s.thing)
	}
	for n := range 20 {
		g, s := basicGreeting(), basicSwitch()
		g.Nonce, s.Nonce = nonce()[:n], nonce()[:n]
		wantRefused(t, "the nonce's rest in the spare room", func(b []byte) ([]byte, api.Errno) { return greet.AppendGreeting(b, g) })
		wantRefused(t, "the nonce's rest in the spare room", func(b []byte) ([]byte, api.Errno) { return greet.AppendSwitch(b, s) })
	}
	a := api.Answer{Caps: core, Response: climbing(0, 300)[:2], Attrs: make([]api.Attr, 70)[:0]}
	x := ofAnswer(a)
	wantBytes(t, x, nil, x.bytes)
	a.Caps, a.Attrs = attred, make([]api.Attr, 70)[:64]
	x = ofAnswer(a)
	wantBytes(t, x, nil, x.bytes)
}

// TestRule6NilAndEmpty are one and the same.
func TestRule6NilAndEmpty(t *testing.T) {
	for _, c := range flagSets() {
		for _, response := range [][]byte{nil, {}} {
			for _, attrs := range [][]api.Attr{nil, {}} {
				for _, s := range []sample{
					ofAnswer(api.Answer{Caps: c, User: "u", Response: response, Attrs: attrs}),
					ofChange(c, api.ChangeUser{User: "u", Response: response, Attrs: attrs}),
				} {
					wantBytes(t, s, nil, s.bytes)
					wantBytes(t, s, []byte{}, s.bytes)
					wantRead(t, "nothing", s, s.bytes, s.thing)
				}
			}
		}
	}
}
