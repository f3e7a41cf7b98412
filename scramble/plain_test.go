package scramble_test

import (
	"bytes"
	"crypto/sha1"
	"crypto/sha256"
	"slices"

	"sluicegate/api"
)

// What stands here says what the chapter's words say. The hashes are the library's.

func plainSum(kind int, b []byte) []byte {
	if kind == api.Sha1 {
		l := sha1.Sum(b)
		return l[:]
	}
	l := sha256.Sum256(b)
	return l[:]
}

// plainCover is the hash of nonce and stored, in kind's order.
func plainCover(kind int, stored, nonce []byte) []byte {
	if kind == api.Sha1 {
		return plainSum(kind, slices.Concat(nonce, stored))
	}
	return plainSum(kind, slices.Concat(stored, nonce))
}

// plainCrossed goes bit by bit: a bit is set where one of the two is, and not both.
func plainCrossed(x, y []byte) []byte {
	l := make([]byte, len(x))
	for bit := range len(x) * 8 {
		mask := byte(1) << (bit % 8)
		if (x[bit/8]&mask != 0) != (y[bit/8]&mask != 0) {
			l[bit/8] |= mask
		}
	}
	return l
}

func plainNonce(draws []byte) []byte {
	var numbers []byte
	for x := 1; x <= 255; x++ {
		if x != '$' {
			numbers = append(numbers, byte(x))
		}
	}
	l := make([]byte, len(draws))
	for i, x := range draws {
		l[i] = numbers[int(x)%254]
	}
	return l
}

func plainCheck(nonce []byte) api.Errno {
	if len(nonce) != 20 || bytes.IndexByte(nonce, 0) >= 0 || bytes.IndexByte(nonce, '$') >= 0 {
		return api.ErrArg
	}
	return api.OK
}

func plainStored(kind int, password string) []byte {
	if password == "" {
		return nil
	}
	return plainSum(kind, plainSum(kind, []byte(password)))
}

func plainResponse(kind int, password string, nonce []byte) []byte {
	if password == "" {
		return nil
	}
	return plainCrossed(plainSum(kind, []byte(password)), plainCover(kind, plainStored(kind, password), nonce))
}

func plainRight(kind int, stored, nonce, response []byte) (bool, api.Errno) {
	length := map[int]int{1: 20, 2: 32}[kind]
	switch {
	case kind != 1 && kind != 2:
		return false, api.ErrArg
	case plainCheck(nonce) != api.OK:
		return false, plainCheck(nonce)
	case len(stored) != 0 && len(stored) != length:
		return false, api.ErrBad
	case len(stored) == 0:
		return len(response) == 0, api.OK
	case len(response) != length:
		return false, api.OK
	}
	hash := plainCrossed(response, plainCover(kind, stored, nonce))
	return bytes.Equal(plainSum(kind, hash), stored), api.OK
}
