package command_test

import (
	"bytes"
	"testing"

	"sluicegate/api"
	"sluicegate/command"
)

const spare = 400

// roomy is b with spare room behind it, that is full of a byte.
func roomy(b []byte, x byte) []byte {
	return append(bytes.Clone(b), bytes.Repeat([]byte{x}, spare)...)[:len(b)]
}

// whole is a list with its spare room.
func whole(b []byte) []byte {
	return b[:cap(b)]
}

func spoil(b []byte) {
	for i := range whole(b) {
		whole(b)[i] = 0xee
	}
}

// wantUntouched asks that b, which roomy made, is as it was, its spare room too.
func wantUntouched(t *testing.T, name string, b, was []byte, x byte) {
	t.Helper()
	if !bytes.Equal(b, was) || !bytes.Equal(whole(b)[len(b):len(b)+spare], bytes.Repeat([]byte{x}, spare)) {
		t.Errorf("%s: what was handed in was changed: %s", name, brief(whole(b)))
	}
}

// TestRule4Append leaves what was handed in as it was, its spare room too, and answers bytes that are apart from it and from one another.
func TestRule4Append(t *testing.T) {
	for _, c := range basics() {
		for _, head := range [][]byte{nil, {}, {1, 2, 3}} {
			b := roomy(head, 99)
			data := c.Data
			c.Data = roomy(data, 77)
			want := join(head, plainBytes(c))
			first, _ := command.Append(b, c)
			second, _ := command.Append(b, c)
			wantUntouched(t, brief(c), b, head, 99)
			wantUntouched(t, brief(c), c.Data, data, 77)
			spoil(first)
			wantUntouched(t, brief(c), b, head, 99)
			wantUntouched(t, brief(c), c.Data, data, 77)
			if !bytes.Equal(second, want) {
				t.Errorf("%s: two answers share memory: %s", brief(c), brief(second))
			}
			spoil(b)
			spoil(c.Data)
			if !bytes.Equal(second, want) {
				t.Errorf("%s: an answer shares memory with what was handed in: %s", brief(c), brief(second))
			}
			c.Data = data
		}
	}
}

// TestRule4Check leaves a command as it was, whether it may be or not.
func TestRule4Check(t *testing.T) {
	for kind := range 256 {
		c := api.Command{Kind: byte(kind), Data: roomy([]byte{1, 2}, 77)}
		command.Check(c)
		command.Append([]byte{1}, c)
		wantUntouched(t, brief(c), c.Data, []byte{1, 2}, 77)
	}
}

// TestRule4Read has bytes that are as they were behind a read, and commands that are apart from them and from one another.
func TestRule4Read(t *testing.T) {
	for _, c := range basics() {
		own := plainBytes(c)
		for _, was := range [][]byte{own, own[:len(own)-1], append(bytes.Clone(own), 1)} {
			b := roomy(was, 88)
			command.Read(b)
			command.WithStmt(b, 3)
			wantUntouched(t, brief(c), b, was, 88)
		}
		b := roomy(own, 88)
		first, _ := command.Read(b)
		second, _ := command.Read(b)
		spoil(first.Data)
		wantUntouched(t, brief(c), b, own, 88)
		spoil(b)
		if !same(second, c) {
			t.Errorf("%s: a command shares memory with its bytes, or with another: %s", brief(c), brief(second))
		}
	}
}

func TestRule4WithStmt(t *testing.T) {
	for _, c := range basics() {
		if !plainAbout(c.Kind) {
			continue
		}
		own := plainBytes(c)
		want, _ := plainWithStmt(own, c.Stmt)
		b := roomy(own, 88)
		first, _ := command.WithStmt(b, c.Stmt)
		second, _ := command.WithStmt(b, c.Stmt)
		spoil(first)
		wantUntouched(t, brief(c), b, own, 88)
		spoil(b)
		if !bytes.Equal(second, want) {
			t.Errorf("%s: an answer shares memory with its bytes, or with another: %s", brief(c), brief(second))
		}
	}
}

// TestRule4SpareRoomIsNotRead has what is missing, or more, in the spare room.
func TestRule4SpareRoomIsNotRead(t *testing.T) {
	for _, c := range basics() {
		own := plainBytes(c)
		b := append(bytes.Clone(own), own...)
		for end := range plainSize(c.Kind) + 1 {
			wantError(t, b[:end], api.ErrShort)
		}
		wantRead(t, b[:len(own)], c)
	}
	for kind := range 256 {
		c := api.Command{Kind: byte(kind), Data: []byte{1, 2, 3}[:0]}
		wantAppend(t, []byte{1, 2, 3}[:1], c, join([]byte{1}, plainBytes(c)))
	}
}

// TestRule6NilAndEmpty are one and the same.
func TestRule6NilAndEmpty(t *testing.T) {
	for kind := range 256 {
		for _, data := range [][]byte{nil, {}} {
			c := api.Command{Kind: byte(kind), Data: data}
			wantAppend(t, nil, c, plainBytes(c))
			wantAppend(t, []byte{}, c, plainBytes(c))
			wantRead(t, plainBytes(c), c)
		}
	}
}
