package scramble_test

import (
	"bytes"
	"encoding/hex"
	"fmt"
	"math"
	"math/rand"
	"slices"
	"strings"
	"testing"

	"sluicegate/api"
	"sluicegate/scramble"
	"sluicegate/sha"
)

var kinds = []int{api.Sha1, api.Sha256}

// wrongKinds have those among them that would be right if some of their bits were lost.
var wrongKinds = []int{
	0, 3, 4, 20, 32, 256, 257, 258, 1<<32 + 1, 1<<32 + 2, math.MaxInt32, math.MaxInt,
	-1, -2, -3, -255, -254, math.MinInt32, math.MinInt32 + 1, math.MinInt, math.MinInt + 1, math.MinInt + 2,
}

// climbing is bytes one more each, from one on.
func climbing(from byte, n int) []byte {
	l := make([]byte, n)
	for i := range l {
		l[i] = from + byte(i)
	}
	return l
}

func noise(n int) []byte {
	b := make([]byte, n)
	rand.New(rand.NewSource(int64(n + 1))).Read(b)
	return b
}

func nonces() [][]byte {
	l := [][]byte{
		climbing(1, 20), climbing(37, 20), climbing(200, 20), climbing(236, 20), bytes.Repeat([]byte{1}, 20),
		bytes.Repeat([]byte{255}, 20), bytes.Repeat([]byte{35, 37}, 10), bytes.Repeat([]byte{128}, 20), []byte("twenty letters, just"),
	}
	return append(l, plainNonce(noise(20)))
}

// wrongNonces may not be: one of another length, a 0 or a 36 at each place, several of them.
func wrongNonces() [][]byte {
	l := [][]byte{
		nil, {}, {1}, {0}, climbing(1, 19), climbing(1, 21), climbing(1, 32), climbing(1, 40), make([]byte, 20), make([]byte, 19),
		bytes.Repeat([]byte{36}, 20), bytes.Repeat([]byte{0, 36}, 10), climbing(100, 276), append(climbing(1, 20), 0),
		climbing(0, 20), climbing(17, 20), climbing(36, 20), climbing(237, 20),
	}
	for at := range 20 {
		for _, x := range []byte{0, 36} {
			nonce := climbing(1, 20)
			nonce[at] = x
			l = append(l, nonce)
		}
	}
	return l
}

func passwords() []string {
	l := []string{
		"", "a", "b", "p", "pw", "password", "secret", " ", "\x00", "\x00\x00", "a\x00", "$", "\xff", "\xff\xfe\xc0\x80", "Pässwörd ☕",
		strings.Repeat("a", 63), strings.Repeat("a", 64), strings.Repeat("a", 65), strings.Repeat("long ", 40000),
		string(climbing(0, 256)), string(climbing(1, 20)), string(noise(20)), string(noise(32)), string(noise(1000)),
	}
	for _, kind := range kinds {
		l = append(l, string(plainStored(kind, "pw")))
	}
	return l
}

// brief shortens what is told of bytes in a failed test.
func brief(b []byte) string {
	if len(b) > 40 {
		return fmt.Sprintf("%x .. (%d bytes)", b[:40], len(b))
	}
	return fmt.Sprintf("%x (%d bytes)", b, len(b))
}

// turned has one bit turned.
func turned(b []byte, bit int) []byte {
	l := slices.Clone(b)
	l[bit/8] ^= 1 << (bit % 8)
	return l
}

// answered is what Native or Fast answers, as kind says.
func answered(kind int, password string, nonce []byte) ([]byte, api.Errno) {
	if kind == api.Sha1 {
		return scramble.Native(password, nonce)
	}
	return scramble.Fast(password, nonce)
}

func response(t *testing.T, kind int, password string, nonce []byte) []byte {
	t.Helper()
	b, e := answered(kind, password, nonce)
	if e != api.OK {
		t.Errorf("the response of kind %d of %s to %x: %v", kind, brief([]byte(password)), nonce, e)
	}
	return b
}

func stored(t *testing.T, kind int, password string) []byte {
	t.Helper()
	b, e := scramble.Stored(kind, password)
	if e != api.OK {
		t.Errorf("Stored of %d and %s: %v", kind, brief([]byte(password)), e)
	}
	return b
}

func wantBytes(t *testing.T, name string, got, want []byte) {
	t.Helper()
	if !bytes.Equal(got, want) {
		t.Errorf("%s: %s, want %s", name, brief(got), brief(want))
	}
}

func wantHex(t *testing.T, name string, got []byte, want string) {
	t.Helper()
	if s := hex.EncodeToString(got); s != want {
		t.Errorf("%s: %s, want %s", name, s, want)
	}
}

func wantRight(t *testing.T, name string, kind int, stored, nonce, response []byte, want bool) {
	t.Helper()
	if is, e := scramble.Right(kind, stored, nonce, response); is != want || e != api.OK {
		t.Errorf("%s: Right of %d, %s, %s, %s: %v, %v, want %v", name, kind, brief(stored), brief(nonce), brief(response), is, e, want)
	}
}

func wantRefused(t *testing.T, name string, kind int, stored, nonce, response []byte, want api.Errno) {
	t.Helper()
	if is, e := scramble.Right(kind, stored, nonce, response); is || e != want {
		t.Errorf("%s: Right of %d, %s, %s, %s: %v, %v, want %v", name, kind, brief(stored), brief(nonce), brief(response), is, e, want)
	}
}

func TestExamples(t *testing.T) {
	n := climbing(1, 20)
	wantBytes(t, "Native of nothing", response(t, 1, "", n), nil)
	wantBytes(t, "Stored of 1, nothing", stored(t, 1, ""), nil)
	wantRight(t, "pw", 1, stored(t, 1, "pw"), n, response(t, 1, "pw", n), true)
	wantRight(t, "nothing of nothing", 2, nil, n, nil, true)
	wantRight(t, "a byte of nothing", 1, nil, n, []byte{1}, false)
	for _, nonce := range [][]byte{climbing(1, 19), append(climbing(1, 19), 36)} {
		if e := scramble.Check(nonce); e != api.ErrArg {
			t.Errorf("Check of %x: %v", nonce, e)
		}
	}
	wantRefused(t, "kind 3", 3, nil, n, nil, api.ErrArg)
	wantRefused(t, "19 bytes", 1, make([]byte, 19), n, nil, api.ErrBad)
	nonce, e := scramble.Nonce(bytes.Repeat([]byte{0, 35, 253, 254}, 5))
	if e != api.OK {
		t.Errorf("Nonce: %v", e)
	}
	wantBytes(t, "Nonce", nonce, bytes.Repeat([]byte{1, 37, 255, 1}, 5))
}

func TestP8_1NonceLengths(t *testing.T) {
	for _, draws := range [][]byte{nil, {}, {0}, {7}, noise(18), noise(19), noise(21), noise(32), noise(40), noise(276), make([]byte, 19), make([]byte, 21)} {
		if nonce, e := scramble.Nonce(draws); len(nonce) != 0 || e != api.ErrArg {
			t.Errorf("Nonce of %s: %x, %v", brief(draws), nonce, e)
		}
	}
}

// TestP8_1NonceValues draws each value at each place, among others.
func TestP8_1NonceValues(t *testing.T) {
	named := map[byte]byte{0: 1, 1: 2, 33: 34, 34: 35, 35: 37, 36: 38, 37: 39, 127: 129, 252: 254, 253: 255, 254: 1, 255: 2}
	for x := range 256 {
		for at := range 20 {
			draws := noise(20)
			draws[at] = byte(x)
			nonce, e := scramble.Nonce(draws)
			if e != api.OK {
				t.Fatalf("Nonce of %x: %v", draws, e)
			}
			wantBytes(t, fmt.Sprintf("Nonce of %x", draws), nonce, plainNonce(draws))
			if want, is := named[byte(x)]; is && nonce[at] != want {
				t.Errorf("Nonce of %d at %d: %d, want %d", x, at, nonce[at], want)
			}
		}
	}
}

func TestP8_1CheckLengths(t *testing.T) {
	for n := range 300 {
		for _, x := range []byte{1, 35, 37, 255} {
			want := api.ErrArg
			if n == 20 {
				want = api.OK
			}
			if e := scramble.Check(bytes.Repeat([]byte{x}, n)); e != want {
				t.Errorf("Check of %d bytes %d: %v, want %v", n, x, e, want)
			}
		}
	}
	if e := scramble.Check(nil); e != api.ErrArg {
		t.Errorf("Check of nil: %v", e)
	}
}

// TestP8_1CheckValues has each value at each place, and at all places.
func TestP8_1CheckValues(t *testing.T) {
	for x := range 256 {
		want := api.OK
		if x == 0 || x == 36 {
			want = api.ErrArg
		}
		for at := range 20 {
			nonce := climbing(100, 20)
			nonce[at] = byte(x)
			if e := scramble.Check(nonce); e != want {
				t.Errorf("Check with a %d at %d: %v, want %v", x, at, e, want)
			}
		}
		if e := scramble.Check(bytes.Repeat([]byte{byte(x)}, 20)); e != want {
			t.Errorf("Check of %d alone: %v, want %v", x, e, want)
		}
	}
	for _, nonce := range nonces() {
		if e := scramble.Check(nonce); e != api.OK {
			t.Errorf("Check of %x: %v", nonce, e)
		}
	}
	for _, nonce := range wrongNonces() {
		if e := scramble.Check(nonce); e != api.ErrArg {
			t.Errorf("Check of %x: %v", nonce, e)
		}
	}
}

// TestP8_1Known has responses that were worked out elsewhere.
func TestP8_1Known(t *testing.T) {
	n := climbing(1, 20)
	wantHex(t, "Native of pw", response(t, api.Sha1, "pw", n), "b0df30c74af91ea34514aaab203bd4b707f86375")
	wantHex(t, "Native of a", response(t, api.Sha1, "a", n), "d638af1707b664cffe85d6bcb29b9d06f14258aa")
	wantHex(t, "Fast of pw", response(t, api.Sha256, "pw", n), "71192ff0ec98fcb2cbaf7de6f3958c02e20756c534e7f907f65ae0c1125dac26")
	wantHex(t, "Fast of a", response(t, api.Sha256, "a", n), "4b35c367d25d0add742519e3573e0c83360f85bb66e6882d81d21120e6d581e4")
	n = []byte{10, 47, 74, 111, 75, 73, 34, 48, 88, 76, 114, 74, 37, 13, 3, 80, 82, 2, 23, 21}
	wantHex(t, "Native of secret", response(t, api.Sha1, "secret", n), "6a149bdd80bda1ebf0fa2bd2cf2e9717fecc34bb")
	wantHex(t, "Fast of secret", response(t, api.Sha256, "secret", n), "f490e76f66d9d86665ce54d98c78d0acfe2fb0b08b423da807144873d30b312c")
	wantHex(t, "Fast of secret2", response(t, api.Sha256, "secret2", n), "abc3934a012cf342e876071c8ee202de51785b430258a7a0138bc79c4d800bc6")
}

func TestP8_1Responses(t *testing.T) {
	for _, kind := range kinds {
		for _, password := range passwords() {
			for _, nonce := range nonces() {
				name := fmt.Sprintf("the response of kind %d of %s to %x", kind, brief([]byte(password)), nonce)
				wantBytes(t, name, response(t, kind, password, nonce), plainResponse(kind, password, nonce))
			}
		}
		for x := range 256 {
			password := string([]byte{byte(x)})
			wantBytes(t, fmt.Sprint("one letter ", x), response(t, kind, password, climbing(1, 20)), plainResponse(kind, password, climbing(1, 20)))
		}
	}
}

func TestP8_1NoResponse(t *testing.T) {
	for _, kind := range kinds {
		for _, password := range passwords() {
			for _, nonce := range wrongNonces() {
				if b, e := answered(kind, password, nonce); len(b) != 0 || e != api.ErrArg {
					t.Errorf("the response of kind %d of %s to %x: %x, %v", kind, brief([]byte(password)), nonce, b, e)
				}
			}
		}
	}
}

func TestP8_2Stored(t *testing.T) {
	wantHex(t, "native of password", stored(t, 1, "password"), "2470c0c06dee42fd1618bb99005adca2ec9d1e19")
	wantHex(t, "native of pw", stored(t, 1, "pw"), "d821809f681a40a6e379b50d0463efae20bdd122")
	wantHex(t, "fast of pw", stored(t, 2, "pw"), "ec7a74baa773cc5e99a439acfb045ad9396791c0a47ecb226ee4e3ae4a49bfbf")
	wantHex(t, "fast of a", stored(t, 2, "a"), "bf5d3affb73efd2ec6c36ad3112dd933efed63c4e1cbffcfa88e2759c144f2d8")
	for _, password := range passwords() {
		for _, kind := range kinds {
			wantBytes(t, fmt.Sprintf("Stored of %d and %s", kind, brief([]byte(password))), stored(t, kind, password), plainStored(kind, password))
		}
		for _, kind := range wrongKinds {
			if b, e := scramble.Stored(kind, password); len(b) != 0 || e != api.ErrArg {
				t.Errorf("Stored of %d and %s: %x, %v", kind, brief([]byte(password)), b, e)
			}
		}
	}
}

// TestP8_2StoredLengths has just the lengths of the kinds' hashes, and nothing, for what may be stored.
func TestP8_2StoredLengths(t *testing.T) {
	n := climbing(1, 20)
	for i, kind := range kinds {
		length := []int{20, 32}[i]
		for size := range 70 {
			for _, answer := range [][]byte{nil, {}, {1}, noise(size), noise(20), noise(32)} {
				switch size {
				case 0:
					wantRight(t, "nothing stored", kind, nil, n, answer, len(answer) == 0)
					wantRight(t, "an empty list stored", kind, []byte{}, n, answer, len(answer) == 0)
				case length:
					wantRight(t, "by chance", kind, noise(size), n, answer, false)
				default:
					wantRefused(t, "another length", kind, noise(size), n, answer, api.ErrBad)
					wantRefused(t, "another length", kind, make([]byte, size), n, answer, api.ErrBad)
				}
			}
		}
	}
}

// TestP8_2OfNothing asks what is right where nothing is stored: the empty response alone, that of the empty password's hash neither.
func TestP8_2OfNothing(t *testing.T) {
	for _, kind := range kinds {
		for _, nonce := range nonces() {
			for _, nothing := range [][]byte{nil, {}, noise(20)[:0]} {
				for _, empty := range [][]byte{nil, {}, noise(32)[:0]} {
					wantRight(t, "an empty response", kind, nothing, nonce, empty, true)
				}
				hash := plainSum(kind, nil)
				twice := plainSum(kind, hash)
				for _, answer := range [][]byte{{0}, {1}, make([]byte, 20), make([]byte, 32), hash, twice,
					plainCrossed(hash, plainCover(kind, twice, nonce)), plainCrossed(hash, plainCover(kind, nil, nonce)),
				} {
					wantRight(t, "a response", kind, nothing, nonce, answer, false)
				}
			}
		}
	}
}

// TestP8_2FirstError has several errors at once: the kind's comes first, then the nonce's, then that of what is stored.
func TestP8_2FirstError(t *testing.T) {
	n, wrong := climbing(1, 20), wrongNonces()
	all := append(nonces(), wrong...)
	for _, answer := range [][]byte{nil, {1}, noise(20), noise(32)} {
		for _, size := range []int{0, 1, 19, 20, 21, 31, 32, 33} {
			kept := noise(size)
			for _, nonce := range all {
				for _, kind := range wrongKinds {
					wantRefused(t, "a wrong kind", kind, kept, nonce, answer, api.ErrArg)
				}
			}
			for _, nonce := range wrong {
				wantRefused(t, "a wrong nonce", api.Sha1, kept, nonce, answer, api.ErrArg)
				wantRefused(t, "a wrong nonce", api.Sha256, kept, nonce, answer, api.ErrArg)
			}
			if size != 0 && size != 20 {
				wantRefused(t, "wrong stored", api.Sha1, kept, n, answer, api.ErrBad)
			}
			if size != 0 && size != 32 {
				wantRefused(t, "wrong stored", api.Sha256, kept, n, answer, api.ErrBad)
			}
		}
	}
}

// TestP8_2WrongNonceOfTheRight refuses a response that would be right, were the nonce one that may be.
func TestP8_2WrongNonceOfTheRight(t *testing.T) {
	for _, kind := range kinds {
		for _, nonce := range wrongNonces() {
			wantRefused(t, "pw", kind, plainStored(kind, "pw"), nonce, plainResponse(kind, "pw", nonce), api.ErrArg)
			wantRefused(t, "nothing", kind, nil, nonce, nil, api.ErrArg)
		}
	}
}

func TestP8_2EachBit(t *testing.T) {
	n := climbing(1, 20)
	for _, kind := range kinds {
		s, r := stored(t, kind, "pw"), response(t, kind, "pw", n)
		for bit := range len(r) * 8 {
			wantRight(t, fmt.Sprint("the response's bit ", bit), kind, s, n, turned(r, bit), false)
			wantRight(t, fmt.Sprint("the bit stored ", bit), kind, turned(s, bit), n, r, false)
		}
		for bit := range len(n) * 8 {
			if other := turned(n, bit); plainCheck(other) == api.OK {
				wantRight(t, fmt.Sprint("the nonce's bit ", bit), kind, s, other, r, false)
			}
		}
		for at := range len(r) - 1 {
			swapped := slices.Clone(r)
			swapped[at], swapped[at+1] = r[at+1], r[at]
			wantRight(t, fmt.Sprint("swapped at ", at), kind, s, n, swapped, r[at] == r[at+1])
		}
	}
}

// TestP8_2Lengths has the right response, shortened and lengthened.
func TestP8_2Lengths(t *testing.T) {
	n := climbing(1, 20)
	for _, kind := range kinds {
		s, r := stored(t, kind, "pw"), response(t, kind, "pw", n)
		wantRight(t, "whole", kind, s, n, r, true)
		for size := range len(r) {
			wantRight(t, "shortened", kind, s, n, r[:size], false)
			wantRight(t, "shortened ahead", kind, s, n, r[len(r)-size:], false)
		}
		for _, more := range [][]byte{{0}, {1}, r, s, n} {
			wantRight(t, "lengthened", kind, s, n, slices.Concat(r, more), false)
			wantRight(t, "lengthened ahead", kind, s, n, slices.Concat(more, r), false)
		}
		wantRight(t, "nil", kind, s, n, nil, false)
		wantRight(t, "empty", kind, s, n, []byte{}, false)
	}
}

// TestP8_2Others has what is right for another kind, nonce or password, and what stands near a response.
func TestP8_2Others(t *testing.T) {
	n := climbing(1, 20)
	for i, kind := range kinds {
		other := kinds[1-i]
		for _, password := range passwords() {
			s, r := stored(t, kind, password), response(t, kind, password, n)
			wantRight(t, "its own", kind, s, n, r, true)
			wantRight(t, "of the other kind", kind, s, n, response(t, other, password, n), password == "")
			wantRight(t, "to another nonce", kind, s, n, response(t, kind, password, climbing(2, 20)), password == "")
			wantRight(t, "what is stored", kind, s, n, s, password == "")
			wantRight(t, "the hash", kind, s, n, plainSum(kind, []byte(password)), false)
			wantRight(t, "the nonce", kind, s, n, n, false)
			for _, somebody := range []string{"", "a", "pw", "PW", "pw ", "secret"} {
				wantRight(t, "of "+somebody, kind, s, n, response(t, kind, somebody, n), somebody == password)
			}
		}
		hash := plainSum(kind, []byte("pw"))
		s := plainSum(kind, hash)
		wrong := plainSum(kind, slices.Concat(n, s))
		if kind == api.Sha1 {
			wrong = plainSum(kind, slices.Concat(s, n))
		}
		wantRight(t, "in the other kind's order", kind, s, n, plainCrossed(hash, wrong), false)
	}
}

// TestP8_2Drawn holds Right against the plain words, at arguments by chance that are often near to right ones.
func TestP8_2Drawn(t *testing.T) {
	r := rand.New(rand.NewSource(8))
	known, fine, wrong := passwords()[:10], nonces(), wrongNonces()
	right := 0
	for range 20000 {
		kind := []int{1, 2, 1, 2, 1, 2, 0, 3, -1}[r.Intn(9)]
		password, nonce := known[r.Intn(len(known))], fine[r.Intn(len(fine))]
		kept, answer := plainStored(max(kind, 1), password), plainResponse(max(kind, 1), password, nonce)
		switch r.Intn(8) {
		case 0:
			nonce = wrong[r.Intn(len(wrong))]
		case 1:
			kept = noise(r.Intn(40))
		case 2:
			answer = noise(r.Intn(40))
		case 3:
			kept = nil
		case 4:
			answer = answer[:r.Intn(len(answer)+1)]
		}
		is, e := scramble.Right(kind, kept, nonce, answer)
		if want, wantE := plainRight(kind, kept, nonce, answer); is != want || e != wantE {
			t.Fatalf("Right of %d, %x, %x, %x: %v, %v, want %v, %v", kind, kept, nonce, answer, is, e, want, wantE)
		}
		if is {
			right++
		}
	}
	if right < 1000 {
		t.Errorf("only %d were right", right)
	}
}

// TestP8_3RightOfItself asks for all passwords and nonces.
func TestP8_3RightOfItself(t *testing.T) {
	for _, kind := range kinds {
		for _, password := range passwords() {
			s := stored(t, kind, password)
			for _, nonce := range nonces() {
				wantRight(t, brief([]byte(password)), kind, s, nonce, response(t, kind, password, nonce), true)
			}
			for i := range 20 {
				nonce, e := scramble.Nonce(noise(i + 1000)[i : i+20])
				if e != api.OK {
					t.Fatalf("Nonce: %v", e)
				}
				wantRight(t, brief([]byte(password)), kind, s, nonce, response(t, kind, password, nonce), true)
			}
		}
	}
}

// TestP8_3AnotherResponse has responses of no password: what lies under them is hashed to what is stored, and that is all that counts.
func TestP8_3AnotherResponse(t *testing.T) {
	for i, kind := range kinds {
		length := []int{20, 32}[i]
		for _, hash := range [][]byte{make([]byte, length), bytes.Repeat([]byte{255}, length), noise(length), climbing(7, length)} {
			s := plainSum(kind, hash)
			for _, nonce := range nonces() {
				r := plainCrossed(hash, plainCover(kind, s, nonce))
				wantRight(t, "made of a hash", kind, s, nonce, r, true)
				wantRight(t, "a bit turned", kind, s, nonce, turned(r, 9), false)
			}
		}
	}
}

// TestP8_3WhoHasBoth comes from the response and what is stored to the password's hash, and by it to the response to another nonce.
func TestP8_3WhoHasBoth(t *testing.T) {
	for _, kind := range kinds {
		sum := sha.Sum1
		if kind == api.Sha256 {
			sum = sha.Sum256
		}
		for _, password := range passwords() {
			if password == "" {
				continue
			}
			s := stored(t, kind, password)
			for i, nonce := range nonces() {
				hash := plainCrossed(response(t, kind, password, nonce), plainCover(kind, s, nonce))
				wantBytes(t, "the hash", hash, sum([]byte(password)))
				other := nonces()[(i+1)%len(nonces())]
				forged := plainCrossed(hash, plainCover(kind, s, other))
				wantBytes(t, "to another nonce", forged, response(t, kind, password, other))
				wantRight(t, "to another nonce", kind, s, other, forged, true)
			}
		}
	}
}

func TestP8_3NonceIsOne(t *testing.T) {
	for x := range 256 {
		for _, draws := range [][]byte{bytes.Repeat([]byte{byte(x)}, 20), climbing(byte(x), 20), noise(x + 20)[x:]} {
			nonce, e := scramble.Nonce(draws)
			if e != api.OK || scramble.Check(nonce) != api.OK {
				t.Errorf("Nonce of %x: %x, %v, Check: %v", draws, nonce, e, scramble.Check(nonce))
			}
			if len(nonce) != 20 || bytes.IndexByte(nonce, 0) >= 0 || bytes.IndexByte(nonce, 36) >= 0 {
				t.Errorf("Nonce of %x is no nonce: %x", draws, nonce)
			}
		}
	}
}

// roomy has the bytes with room behind them that is not empty.
func roomy(b []byte) []byte {
	return slices.Concat(b, noise(100))[:len(b)]
}

// TestWhatIsHandedInStays looks at what is handed in, and at the room behind it.
func TestWhatIsHandedInStays(t *testing.T) {
	for _, kind := range kinds {
		n := climbing(1, 20)
		for _, password := range []string{"", "pw"} {
			s, r := plainStored(kind, password), plainResponse(kind, password, n)
			in := [][]byte{roomy(n), roomy(s), roomy(r)}
			var kept [][]byte
			for _, b := range in {
				kept = append(kept, slices.Clone(b[:cap(b)]))
			}
			scramble.Nonce(in[0])
			scramble.Check(in[0])
			wantBytes(t, "the response", response(t, kind, password, in[0]), r)
			wantRight(t, "with room", kind, in[1], in[0], in[2], true)
			scramble.Right(kind, in[1], in[0], in[0])
			scramble.Right(kind, in[0], in[0], in[0])
			for i, b := range in {
				wantBytes(t, fmt.Sprint("what was handed in ", i), b[:cap(b)], kept[i])
			}
		}
	}
}

// TestRoomIsNotRead has the byte that is missing in the room behind.
func TestRoomIsNotRead(t *testing.T) {
	n := climbing(1, 20)
	if b, e := scramble.Nonce(n[:19]); len(b) != 0 || e != api.ErrArg {
		t.Errorf("Nonce of 19 bytes with room: %x, %v", b, e)
	}
	if e := scramble.Check(n[:19]); e != api.ErrArg {
		t.Errorf("Check of 19 bytes with room: %v", e)
	}
	if e := scramble.Check(append(climbing(1, 20), 0, 36)[:20]); e != api.OK {
		t.Errorf("Check with a 0 and a 36 in the room: %v", e)
	}
	for _, kind := range kinds {
		s, r := plainStored(kind, "pw"), plainResponse(kind, "pw", n)
		wantRight(t, "the response's end in the room", kind, s, n, r[:len(r)-1], false)
		wantRight(t, "the response in the room", kind, nil, n, r[:0], true)
		wantRefused(t, "the end of what is stored in the room", kind, s[:len(s)-1], n, r, api.ErrBad)
		wantRight(t, "what is stored in the room", kind, s[:0], n, r, false)
		wantRefused(t, "the nonce's end in the room", kind, s, n[:19], r, api.ErrArg)
	}
}

// TestNothingIsKept changes what was handed in behind the call: what was answered stays.
func TestNothingIsKept(t *testing.T) {
	draws := noise(20)
	want := plainNonce(draws)
	nonce, _ := scramble.Nonce(draws)
	clear(draws)
	wantBytes(t, "the nonce", nonce, want)
	for _, kind := range kinds {
		n := climbing(1, 20)
		r := response(t, kind, "pw", n)
		s := stored(t, kind, "pw")
		in := [][]byte{slices.Clone(s), slices.Clone(n), slices.Clone(r)}
		wantRight(t, "ahead", kind, in[0], in[1], in[2], true)
		for _, b := range append(in, n) {
			clear(b)
		}
		n = climbing(1, 20)
		wantBytes(t, "the response", r, plainResponse(kind, "pw", n))
		wantRight(t, "behind", kind, s, n, r, true)
		wantBytes(t, "once more", response(t, kind, "pw", n), r)
	}
}

// TestAnswersAreNew spoils answers, and the room behind them: neither other answers nor what was handed in change.
func TestAnswersAreNew(t *testing.T) {
	n, draws := climbing(1, 20), climbing(0, 20)
	calls := map[string]func() []byte{
		"Nonce":       func() []byte { b, _ := scramble.Nonce(draws); return b },
		"Native":      func() []byte { b, _ := scramble.Native("pw", n); return b },
		"Fast":        func() []byte { b, _ := scramble.Fast("pw", n); return b },
		"Stored of 1": func() []byte { b, _ := scramble.Stored(1, "pw"); return b },
		"Stored of 2": func() []byte { b, _ := scramble.Stored(2, "pw"); return b },
	}
	for name, call := range calls {
		first, second := call(), call()
		want := slices.Clone(second)
		room := first[:cap(first)]
		for i := range room {
			room[i] ^= 255
		}
		wantBytes(t, name, second, want)
		wantBytes(t, name+" once more", call(), want)
	}
	wantBytes(t, "the nonce", n, climbing(1, 20))
	wantBytes(t, "the draws", draws, climbing(0, 20))
	for _, kind := range kinds {
		wantRight(t, "behind all", kind, stored(t, kind, "pw"), n, response(t, kind, "pw", n), true)
	}
}
