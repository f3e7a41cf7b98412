package squeeze_test

import (
	"bytes"
	"fmt"
	"slices"
	"testing"

	"sluicegate/api"
	"sluicegate/squeeze"
	"sluicegate/zlib"
)

// frame is a squeezed frame whose head says these two lengths and this number, whatever stands behind it.
func frame(length int, seq byte, tells int, part []byte) []byte {
	head := []byte{byte(length), byte(length >> 8), byte(length >> 16), seq, byte(tells), byte(tells >> 8), byte(tells >> 16)}
	return append(head, part...)
}

// raw is a frame that tells its bytes as they are.
func raw(seq byte, part string) []byte {
	return frame(len(part), seq, 0, []byte(part))
}

// wrapped is a frame with this wrapped stream, right or wrong, that should tell so many bytes.
func wrapped(seq byte, tells int, stream []byte) []byte {
	return frame(len(stream), seq, tells, stream)
}

// packed is a frame with the bytes' Pack, be that shorter or not.
func packed(seq byte, part string) []byte {
	return wrapped(seq, len(part), zlib.Pack([]byte(part)))
}

func bytesOf(parts ...[]byte) []byte {
	return slices.Concat(parts...)
}

// plainFrame reads the chapter's words on a piece's frame.
func plainFrame(piece []byte, seq byte, threshold int) []byte {
	if len(piece) < threshold || len(zlib.Pack(piece)) >= len(piece) {
		return raw(seq, string(piece))
	}
	return packed(seq, string(piece))
}

// plainSqueeze reads the chapter's words on bytes squeezed one by one.
func plainSqueeze(b []byte, seq byte, most, threshold int) ([]byte, byte) {
	if len(b) == 0 {
		return nil, seq
	}
	n := min(len(b), most)
	rest, next := plainSqueeze(b[n:], byte((int(seq)+1)%256), most, threshold)
	return bytesOf(plainFrame(b[:n], seq, threshold), rest), next
}

// plain is what a reader should be like behind some bytes: worked out of all of them, from the first one on.
type plain struct {
	told    []byte
	next    byte
	held    int
	stopped api.Errno
}

// headError is the first of the chapter's errors that a head has.
func headError(length, tells int, seq, want byte, most int) api.Errno {
	if length > most {
		return api.ErrBad
	}
	if tells > most {
		return api.ErrBad
	}
	if seq != want {
		return api.ErrOrder
	}
	return api.OK
}

// partOf is what a whole frame tells, by the chapter's words.
func partOf(part []byte, tells int) ([]byte, api.Errno) {
	if tells == 0 {
		return part, api.OK
	}
	out, e := zlib.Unpack(part, tells)
	if e == api.ErrSum {
		return nil, api.ErrSum
	}
	if e != api.OK {
		return nil, api.ErrBad
	}
	if len(out) != tells {
		return nil, api.ErrBad
	}
	return out, api.OK
}

// plainRead goes over all bytes that a reader was handed, as it expected seq at the first of them.
func plainRead(all []byte, seq byte, most int) plain {
	want := plain{next: seq}
	for len(all) >= 7 {
		length := int(all[0]) + int(all[1])*256 + int(all[2])*65536
		tells := int(all[4]) + int(all[5])*256 + int(all[6])*65536
		want.stopped = headError(length, tells, all[3], want.next, most)
		if want.stopped != api.OK {
			return want
		}
		if len(all)-7 < length {
			break
		}
		var part []byte
		part, want.stopped = partOf(all[7:7+length], tells)
		if want.stopped != api.OK {
			return want
		}
		want.told = bytesOf(want.told, part)
		want.next = byte((int(want.next) + 1) % 256)
		all = all[7+length:]
	}
	want.held = len(all)
	return want
}

// brief shortens what is told of bytes in a failed test.
func brief(b []byte) string {
	if len(b) > 40 {
		return fmt.Sprintf("%v .. (%d bytes)", b[:40], len(b))
	}
	return fmt.Sprint(b)
}

func made(t *testing.T, most int) *squeeze.Reader {
	t.Helper()
	r, e := squeeze.New(most)
	if r == nil || e != api.OK {
		t.Fatalf("New of %d: %v, %v", most, r, e)
	}
	return r
}

// madeAt is a new reader that expects another number than 0.
func madeAt(t *testing.T, most int, seq byte) *squeeze.Reader {
	t.Helper()
	r := made(t, most)
	wantExpect(t, "new", r, seq, api.OK)
	return r
}

// wantState asks a reader all that it can be asked, which changes nothing.
func wantState(t *testing.T, name string, r *squeeze.Reader, next byte, held int, stopped api.Errno) {
	t.Helper()
	for range 2 {
		if r.Next() != next || r.Held() != held || r.Stopped() != stopped {
			t.Errorf("%s: Next %d, Held %d, Stopped %v; want %d, %d, %v", name, r.Next(), r.Held(), r.Stopped(), next, held, stopped)
		}
	}
}

func wantFeed(t *testing.T, r *squeeze.Reader, b []byte, e api.Errno, want string) {
	t.Helper()
	got, err := r.Feed(b)
	if string(got) != want || err != e {
		t.Errorf("Feed of %s: %s, %v; want %s, %v", brief(b), brief(got), err, brief([]byte(want)), e)
	}
}

func wantExpect(t *testing.T, name string, r *squeeze.Reader, seq byte, e api.Errno) {
	t.Helper()
	if err := r.Expect(seq); err != e {
		t.Errorf("%s: Expect of %d: %v, want %v", name, seq, err, e)
	}
}

// wantChunks feeds a new reader with all bytes, cut at these rising places, and asks it behind each chunk what a plain reading says.
func wantChunks(t *testing.T, all []byte, seq byte, most int, cuts ...int) {
	t.Helper()
	r := madeAt(t, most, seq)
	from, before := 0, plain{next: seq}
	for _, to := range append(slices.Clone(cuts), len(all)) {
		now := plainRead(all[:to], seq, most)
		e := now.stopped
		if before.stopped != api.OK {
			e = api.ErrOver
		}
		got, err := r.Feed(all[from:to])
		if want := now.told[len(before.told):]; !bytes.Equal(got, want) || err != e {
			t.Errorf("%s from %d, most %d, cut at %v, up to %d: %s, %v; want %s, %v", brief(all), seq, most, cuts, to, brief(got), err, brief(want), e)
		}
		wantState(t, fmt.Sprint(brief(all), ", cut at ", cuts, ", up to ", to), r, now.next, now.held, now.stopped)
		if r.Held() > most+7 {
			t.Errorf("%s, cut at %v, up to %d: Held %d is above most and 7", brief(all), cuts, to, r.Held())
		}
		from, before = to, now
	}
}

// each is all places of a list, so that chunks cut there have one byte each.
func each(b []byte) []int {
	var l []int
	for i := range b {
		l = append(l, i)
	}
	return l
}

// wantEachCut cuts all bytes at each place, and at all of them.
func wantEachCut(t *testing.T, all []byte, seq byte, most int) {
	t.Helper()
	wantChunks(t, all, seq, most, each(all)...)
	for i := range len(all) + 1 {
		wantChunks(t, all, seq, most, i)
	}
}
