package packet_test

import (
	"fmt"
	"slices"
	"testing"

	"sluicegate/api"
	"sluicegate/packet"
)

// frame is a frame whose head says this length and this number, whatever stands behind it.
func frame(length int, seq byte, part string) []byte {
	return append([]byte{byte(length), byte(length >> 8), byte(length >> 16), seq}, part...)
}

// right is a frame whose length is that of its part.
func right(seq byte, part string) []byte {
	return frame(len(part), seq, part)
}

func bytesOf(parts ...[]byte) []byte {
	return slices.Concat(parts...)
}

// plainSplit reads the chapter's words on a payload's frames one by one.
func plainSplit(body []byte, seq byte, most int) ([]byte, byte) {
	if len(body) < most {
		return right(seq, string(body)), byte((int(seq) + 1) % 256)
	}
	rest, next := plainSplit(body[most:], byte((int(seq)+1)%256), most)
	return bytesOf(right(seq, string(body[:most])), rest), next
}

// told is a payload, and how many bytes there were when its last one came.
type told struct {
	packet api.Packet
	end    int
}

// plain is what a reader should be like behind some bytes: worked out of all of them, from the first one on.
type plain struct {
	told    []told
	next    byte
	held    int
	stopped api.Errno
	at      int // how many bytes there were when it stopped
}

// headError is the first of the chapter's errors that a head has.
func headError(length int, seq, want byte, before, most, limit int) api.Errno {
	if length > most {
		return api.ErrBad
	}
	if seq != want {
		return api.ErrOrder
	}
	if before+length > limit {
		return api.ErrLong
	}
	return api.OK
}

// plainRead goes over all bytes that a reader was handed, as it expected seq at the first of them.
func plainRead(all []byte, seq byte, most, limit int) plain {
	want := plain{next: seq}
	first, body, at := seq, "", 0
	for len(all)-at >= 4 {
		length := int(all[at]) + int(all[at+1])*256 + int(all[at+2])*65536
		if e := headError(length, all[at+3], want.next, len(body), most, limit); e != api.OK {
			want.stopped, want.at = e, at+4
			return want
		}
		if len(all)-at-4 < length {
			break
		}
		body += string(all[at+4 : at+4+length])
		at += 4 + length
		want.next = byte((int(want.next) + 1) % 256)
		if length < most {
			want.told = append(want.told, told{api.Packet{Seq: first, Next: want.next, Body: []byte(body)}, at})
			first, body = want.next, ""
		}
	}
	want.held = len(body) + len(all) - at
	return want
}

func (want plain) packets() []api.Packet {
	var l []api.Packet
	for _, x := range want.told {
		l = append(l, x.packet)
	}
	return l
}

// size is how many bytes the payloads that are told have in frames.
func (want plain) size() int {
	if len(want.told) == 0 {
		return 0
	}
	return want.told[len(want.told)-1].end
}

// brief shortens what is told of bytes in a failed test.
func brief(b []byte) string {
	if len(b) > 40 {
		return fmt.Sprintf("%v .. (%d bytes)", b[:40], len(b))
	}
	return fmt.Sprint(b)
}

func briefly(l []api.Packet) string {
	s := fmt.Sprint(len(l), ":")
	for i, p := range l {
		if i == 8 {
			return s + " .."
		}
		s += fmt.Sprintf(" %d to %d %s", p.Seq, p.Next, brief(p.Body))
	}
	return s
}

func same(l, m []api.Packet) bool {
	return slices.EqualFunc(l, m, func(p, q api.Packet) bool {
		return p.Seq == q.Seq && p.Next == q.Next && slices.Equal(p.Body, q.Body)
	})
}

func wantPackets(t *testing.T, name string, got, want []api.Packet) {
	t.Helper()
	if !same(got, want) {
		t.Errorf("%s: %s, want %s", name, briefly(got), briefly(want))
	}
}

func made(t *testing.T, most, limit int) *packet.Reader {
	t.Helper()
	r, e := packet.New(most, limit)
	if r == nil || e != api.OK {
		t.Fatalf("New of %d, %d: %v, %v", most, limit, r, e)
	}
	return r
}

// wantState asks a reader all that it can be asked, which changes nothing.
func wantState(t *testing.T, name string, r *packet.Reader, next byte, held int, stopped api.Errno) {
	t.Helper()
	for range 2 {
		if r.Next() != next || r.Held() != held || r.Stopped() != stopped {
			t.Errorf("%s: Next %d, Held %d, Stopped %v; want %d, %d, %v", name, r.Next(), r.Held(), r.Stopped(), next, held, stopped)
		}
	}
}

func wantFeed(t *testing.T, r *packet.Reader, b []byte, e api.Errno, want ...api.Packet) {
	t.Helper()
	got, err := r.Feed(b)
	wantPackets(t, "Feed of "+brief(b), got, want)
	if err != e {
		t.Errorf("Feed of %s: error %v, want %v", brief(b), err, e)
	}
}

func wantExpect(t *testing.T, name string, r *packet.Reader, seq byte, e api.Errno) {
	t.Helper()
	if err := r.Expect(seq); err != e {
		t.Errorf("%s: Expect of %d: %v, want %v", name, seq, err, e)
	}
}

// wantChunks feeds a new reader with all bytes, cut at these rising places, and asks it behind each chunk what a plain reading says.
func wantChunks(t *testing.T, all []byte, seq byte, most, limit int, cuts ...int) {
	t.Helper()
	r := made(t, most, limit)
	wantExpect(t, "new", r, seq, api.OK)
	name := fmt.Sprintf("%s from %d, most %d, limit %d, cut at %v", brief(all), seq, most, limit, cuts)
	from, before := 0, plain{next: seq}
	for _, to := range append(slices.Clone(cuts), len(all)) {
		now := plainRead(all[:to], seq, most, limit)
		e := now.stopped
		if before.stopped != api.OK {
			e = api.ErrOver
		}
		got, err := r.Feed(all[from:to])
		wantPackets(t, fmt.Sprint(name, ", up to ", to), got, now.packets()[len(before.told):])
		if err != e {
			t.Errorf("%s, up to %d: error %v, want %v", name, to, err, e)
		}
		wantState(t, fmt.Sprint(name, ", up to ", to), r, now.next, now.held, now.stopped)
		if r.Held() > limit+4 {
			t.Errorf("%s, up to %d: Held %d is above the limit and 4", name, to, r.Held())
		}
		from, before = to, now
	}
}

// each is all places of a list, so that chunks cut there have one byte each.
func each(b []byte) []int {
	var l []int
	for i := range b {
		l = append(l, i)
	}
	return l
}
