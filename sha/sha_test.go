package sha_test

import (
	"bytes"
	"crypto/sha1"
	"crypto/sha256"
	"encoding/hex"
	"fmt"
	"hash"
	"math"
	"math/rand"
	"slices"
	"strings"
	"testing"

	"sluicegate/api"
	"sluicegate/sha"
)

var kinds = []int{api.Sha1, api.Sha256}

// edges are the lengths around which what is padded takes a block more, or the count of the bits stands in a block without bytes.
var edges = []int{0, 1, 2, 3, 4, 54, 55, 56, 57, 62, 63, 64, 65, 118, 119, 120, 121, 127, 128, 129, 183, 184, 191, 192, 193}

// library answers the library's hash, against which ours is held.
func library(kind int) hash.Hash {
	if kind == api.Sha1 {
		return sha1.New()
	}
	return sha256.New()
}

func plainSum(kind int, b []byte) []byte {
	h := library(kind)
	h.Write(b)
	return h.Sum(nil)
}

func wholeSum(kind int, b []byte) []byte {
	if kind == api.Sha1 {
		return sha.Sum1(b)
	}
	return sha.Sum256(b)
}

func noise(n int) []byte {
	b := make([]byte, n)
	rand.New(rand.NewSource(int64(n + 1))).Read(b)
	return b
}

// climbing has bytes of all values, one behind the other.
func climbing(n int) []byte {
	b := make([]byte, n)
	for i := range b {
		b[i] = byte(i)
	}
	return b
}

func texts() [][]byte {
	l := [][]byte{
		nil, {}, []byte("abc"), []byte(strings.Repeat("select 1; ", 30)), climbing(256), climbing(4096), noise(1000),
		noise(64 * 50), noise(64*50 + 55), noise(64*50 + 56), noise(100000),
	}
	for _, n := range edges {
		l = append(l, make([]byte, n), bytes.Repeat([]byte{255}, n), bytes.Repeat([]byte{128}, n), noise(n))
	}
	return l
}

// brief shortens what is told of bytes in a failed test.
func brief(b []byte) string {
	if len(b) > 24 {
		return fmt.Sprintf("%x .. (%d bytes)", b[:24], len(b))
	}
	return fmt.Sprintf("%x (%d bytes)", b, len(b))
}

func made(t *testing.T, kind int) *sha.Hash {
	t.Helper()
	h, e := sha.New(kind)
	if h == nil || e != api.OK {
		t.Fatalf("New of %d: %v, %v", kind, h, e)
	}
	return h
}

func write(t *testing.T, h *sha.Hash, b []byte) {
	t.Helper()
	if e := h.Write(b); e != api.OK {
		t.Errorf("Write of %s: %v", brief(b), e)
	}
}

// wantHash asks a hash whether it is over these bytes.
func wantHash(t *testing.T, name string, h *sha.Hash, kind int, b []byte) {
	t.Helper()
	if got, want := h.Sum(), plainSum(kind, b); !bytes.Equal(got, want) {
		t.Errorf("%s: Sum of kind %d over %s: %x, want %x", name, kind, brief(b), got, want)
	}
	if n := h.Len(); n != len(b) {
		t.Errorf("%s: Len of kind %d over %s: %d", name, kind, brief(b), n)
	}
}

func wantWhole(t *testing.T, kind int, b []byte, want string) {
	t.Helper()
	if got := hex.EncodeToString(wholeSum(kind, b)); got != want {
		t.Errorf("the sum of kind %d of %s: %s, want %s", kind, brief(b), got, want)
	}
}

func TestExamples(t *testing.T) {
	wantWhole(t, api.Sha1, []byte("abc"), "a9993e364706816aba3e25717850c26c9cd0d89d")
	wantWhole(t, api.Sha1, nil, "da39a3ee5e6b4b0d3255bfef95601890afd80709")
	wantWhole(t, api.Sha256, []byte("abc"), "ba7816bf8f01cfea414140de5dae2223b00361a396177a9cb410ff61f20015ad")
	wantWhole(t, api.Sha256, nil, "e3b0c44298fc1c149afbf4c8996fb92427ae41e4649b934ca495991b7852b855")
	if h, e := sha.New(3); h != nil || e != api.ErrArg {
		t.Errorf("New of 3: %v, %v", h, e)
	}
}

// TestP7_1Known has the texts that the standard's own examples have.
func TestP7_1Known(t *testing.T) {
	two := []byte("abcdbcdecdefdefgefghfghighijhijkijkljklmklmnlmnomnopnopq")
	wantWhole(t, api.Sha1, two, "84983e441c3bd26ebaae4aa1f95129e5e54670f1")
	wantWhole(t, api.Sha256, two, "248d6a61d20638b8e5c026930c3e6039a33ce45964ff2167f6ecedd419db06c1")
	many := bytes.Repeat([]byte("a"), 1000000)
	wantWhole(t, api.Sha1, many, "34aa973cd4c4daa4f61eeb2bdbad27316534016f")
	wantWhole(t, api.Sha256, many, "cdc76e5c9914fb9281a1c7e284d73e67f1809a48a497200e046d39ccc7112cd0")
	wantWhole(t, api.Sha1, []byte{}, "da39a3ee5e6b4b0d3255bfef95601890afd80709")
	wantWhole(t, api.Sha256, []byte{}, "e3b0c44298fc1c149afbf4c8996fb92427ae41e4649b934ca495991b7852b855")
}

func TestP7_1Sums(t *testing.T) {
	for _, kind := range kinds {
		for _, b := range texts() {
			wantWhole(t, kind, b, hex.EncodeToString(plainSum(kind, b)))
		}
		for n := range 400 {
			b := noise(n)
			wantWhole(t, kind, b, hex.EncodeToString(plainSum(kind, b)))
		}
		for x := range 256 {
			b := []byte{byte(x)}
			wantWhole(t, kind, b, hex.EncodeToString(plainSum(kind, b)))
		}
	}
}

// TestP7_1EachBit turns each bit of two blocks and a bit more: each place of a block counts.
func TestP7_1EachBit(t *testing.T) {
	for _, kind := range kinds {
		b := noise(130)
		for bit := range len(b) * 8 {
			b[bit/8] ^= 1 << (bit % 8)
			wantWhole(t, kind, b, hex.EncodeToString(plainSum(kind, b)))
			b[bit/8] ^= 1 << (bit % 8)
		}
	}
}

// TestP7_1ManyBits has so many bytes that their bits are more than four bytes can count.
func TestP7_1ManyBits(t *testing.T) {
	piece := noise(1<<20 + 1)
	for _, kind := range kinds {
		t.Run(fmt.Sprint("kind ", kind), func(t *testing.T) {
			t.Parallel()
			h, other := made(t, kind), library(kind)
			n := 0
			for n <= 1<<29 {
				write(t, h, piece)
				other.Write(piece)
				n += len(piece)
			}
			if got, want := h.Sum(), other.Sum(nil); !bytes.Equal(got, want) || h.Len() != n {
				t.Errorf("Sum of %d bytes: %x, want %x; Len: %d", n, got, want, h.Len())
			}
		})
	}
}

func TestP7_2New(t *testing.T) {
	for _, kind := range []int{0, 3, 4, 256, 257, 258, -1, -2, -3, math.MinInt32, math.MaxInt32, 1<<32 + 1, 1<<32 + 2, math.MinInt, math.MaxInt} {
		if h, e := sha.New(kind); h != nil || e != api.ErrArg {
			t.Errorf("New of %d: %v, %v", kind, h, e)
		}
	}
	for _, kind := range []int{1, 2} {
		wantHash(t, "new", made(t, kind), kind, nil)
	}
}

// TestP7_2NothingWritten has pieces of no bytes alone.
func TestP7_2NothingWritten(t *testing.T) {
	for _, kind := range kinds {
		h := made(t, kind)
		for _, b := range [][]byte{nil, {}, []byte("spare room")[:0]} {
			write(t, h, b)
			wantHash(t, "nothing", h, kind, nil)
		}
	}
}

// TestP7_2GoesOn asks behind each byte, twice: the hash is none the worse for it.
func TestP7_2GoesOn(t *testing.T) {
	for _, kind := range kinds {
		b := noise(300)
		asked, silent := made(t, kind), made(t, kind)
		for i := range b {
			wantHash(t, "ahead of a byte", asked, kind, b[:i])
			wantHash(t, "asked again", asked, kind, b[:i])
			write(t, asked, b[i:i+1])
			write(t, silent, b[i:i+1])
		}
		wantHash(t, "asked all along", asked, kind, b)
		wantHash(t, "asked at the end", silent, kind, b)
	}
}

func TestP7_2Len(t *testing.T) {
	for _, kind := range kinds {
		h, n := made(t, kind), 0
		for _, more := range append(edges, 10000, 0, 1) {
			if h.Len() != n {
				t.Errorf("Len of kind %d: %d, want %d", kind, h.Len(), n)
			}
			write(t, h, make([]byte, more))
			n += more
			if h.Len() != n || h.Len() != n {
				t.Errorf("Len of kind %d behind %d bytes more: %d, want %d", kind, more, h.Len(), n)
			}
		}
	}
}

// TestP7_2InTurn writes to four hashes, byte by byte and by pieces: each is over its own bytes.
func TestP7_2InTurn(t *testing.T) {
	own := [][]byte{noise(200), climbing(210), bytes.Repeat([]byte{255}, 190), []byte(strings.Repeat("ab", 100))}
	kind := []int{api.Sha1, api.Sha256, api.Sha1, api.Sha256}
	for _, step := range []int{1, 7, 63, 64, 65} {
		l := make([]*sha.Hash, len(own))
		for i := range l {
			l[i] = made(t, kind[i])
		}
		for at := 0; at < 210; at += step {
			for i, h := range l {
				write(t, h, own[i][min(at, len(own[i])):min(at+step, len(own[i]))])
				wantHash(t, "in turn", h, kind[i], own[i][:min(at+step, len(own[i]))])
			}
		}
	}
}

// TestP7_2NotMade has hashes that New did not make: they are none, and stay none.
func TestP7_2NotMade(t *testing.T) {
	var nobody *sha.Hash
	emptied := made(t, api.Sha1)
	*emptied = sha.Hash{}
	for name, h := range map[string]*sha.Hash{"nil": nobody, "zero": {}, "new": new(sha.Hash), "emptied": emptied} {
		for range 2 {
			if b := h.Sum(); len(b) != 0 {
				t.Errorf("%s: Sum: %x", name, b)
			}
			if n := h.Len(); n != 0 {
				t.Errorf("%s: Len: %d", name, n)
			}
			for _, b := range [][]byte{nil, {}, []byte("a"), noise(63), noise(64), noise(65), noise(1000)} {
				if e := h.Write(b); e != api.ErrNil {
					t.Errorf("%s: Write of %s: %v", name, brief(b), e)
				}
			}
		}
	}
}

// TestP7_3Steps writes in pieces of one length.
func TestP7_3Steps(t *testing.T) {
	for _, kind := range kinds {
		for _, b := range texts() {
			if len(b) > 10000 {
				continue
			}
			for _, step := range []int{1, 2, 3, 31, 32, 55, 56, 63, 64, 65, 127, 128, 129, 1000} {
				h := made(t, kind)
				for piece := range slices.Chunk(b, step) {
					write(t, h, piece)
					write(t, h, nil)
				}
				wantHash(t, fmt.Sprint("pieces of ", step), h, kind, b)
				if !bytes.Equal(h.Sum(), wholeSum(kind, b)) {
					t.Errorf("kind %d over %s in pieces of %d is not that of the whole", kind, brief(b), step)
				}
			}
		}
	}
}

// TestP7_3EachCut cuts at each two places, those ahead of, at and behind a block's end among them.
func TestP7_3EachCut(t *testing.T) {
	b := noise(140)
	for _, kind := range kinds {
		want := wholeSum(kind, b)
		for i := range len(b) + 1 {
			for j := i; j <= len(b); j++ {
				h := made(t, kind)
				write(t, h, b[:i])
				write(t, h, b[i:j])
				write(t, h, b[j:])
				if !bytes.Equal(h.Sum(), want) || h.Len() != len(b) {
					t.Fatalf("kind %d cut at %d and %d: %x, %d bytes, want %x", kind, i, j, h.Sum(), h.Len(), want)
				}
			}
		}
	}
}

// TestP7_3Drawn writes pieces by chance, many blocks long among them.
func TestP7_3Drawn(t *testing.T) {
	r := rand.New(rand.NewSource(7))
	for range 300 {
		kind := kinds[r.Intn(2)]
		h := made(t, kind)
		var all []byte
		for range r.Intn(12) {
			piece := make([]byte, []int{r.Intn(4), r.Intn(70), 64 * r.Intn(4), r.Intn(3000)}[r.Intn(4)])
			r.Read(piece)
			write(t, h, piece)
			all = append(all, piece...)
			if r.Intn(3) == 0 {
				wantHash(t, "on the way", h, kind, all)
			}
		}
		wantHash(t, "at the end", h, kind, all)
		if !bytes.Equal(h.Sum(), wholeSum(kind, all)) {
			t.Errorf("kind %d over %s is not that of the whole", kind, brief(all))
		}
	}
}

// TestWhatIsHandedInStays looks at the bytes, and at the room behind them, and changes both behind the call.
func TestWhatIsHandedInStays(t *testing.T) {
	for _, kind := range kinds {
		for _, n := range edges {
			room := noise(n + 100)
			kept := slices.Clone(room)
			h := made(t, kind)
			write(t, h, room[:n])
			wantWhole(t, kind, room[:n], hex.EncodeToString(plainSum(kind, kept[:n])))
			if !bytes.Equal(room, kept) {
				t.Errorf("kind %d: %d bytes were changed", kind, n)
			}
			clear(room)
			wantHash(t, "changed behind the call", h, kind, kept[:n])
			write(t, h, kept[n:n+70])
			clear(room)
			wantHash(t, "and more", h, kind, kept[:n+70])
		}
	}
}

// TestAnswersAreNew spoils answers, and the room behind them.
func TestAnswersAreNew(t *testing.T) {
	spoil := func(b []byte) {
		for i := range b[:cap(b)] {
			b[:cap(b)][i] ^= 255
		}
	}
	b := []byte("abc")
	for _, kind := range kinds {
		h := made(t, kind)
		write(t, h, b)
		first, second := h.Sum(), h.Sum()
		spoil(first)
		if !bytes.Equal(second, plainSum(kind, b)) {
			t.Errorf("kind %d: two answers of Sum share bytes", kind)
		}
		wantHash(t, "an answer was changed", h, kind, b)
		spoil(second)
		write(t, h, b)
		wantHash(t, "an answer was changed, and more", h, kind, []byte("abcabc"))
		whole, again := wholeSum(kind, b), wholeSum(kind, b)
		spoil(whole)
		if !bytes.Equal(again, plainSum(kind, b)) || !bytes.Equal(wholeSum(kind, b), again) {
			t.Errorf("kind %d: two answers share bytes", kind)
		}
	}
	if string(b) != "abc" {
		t.Errorf("what was handed in was changed: %q", b)
	}
}
