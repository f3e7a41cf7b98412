package zlib_test

import (
	"bytes"
	"hash/adler32"
	"slices"

	"sluicegate/api"
	"sluicegate/deflate"
	"sluicegate/inflate"
)

// What stands here says what the chapter's words say. The streams are those of the layers below, the sum is the library's.

func plainSum(b []byte) []byte {
	sum := adler32.Checksum(b)
	return []byte{byte(sum / 16777216), byte(sum / 65536 % 256), byte(sum / 256 % 256), byte(sum % 256)}
}

func plainPack(b []byte) []byte {
	return slices.Concat([]byte{120, 1}, deflate.Deflate(b), plainSum(b))
}

func plainHead(b []byte) api.Errno {
	if len(b) < 2 {
		return api.ErrShort
	}
	first, second := int(b[0]), int(b[1])
	fine := first%16 == 8 && first/16 <= 7 && second/32%2 == 0 && (first*256+second)%31 == 0
	if !fine {
		return api.ErrBad
	}
	return api.OK
}

func plainUnpack(b []byte, most int) ([]byte, api.Errno) {
	if most < 0 {
		return nil, api.ErrArg
	}
	if e := plainHead(b); e != api.OK {
		return nil, e
	}
	out, n, e := inflate.Inflate(b[2:], most)
	left := b[2+n:]
	switch {
	case e != api.OK:
		return nil, e
	case len(left) < 4:
		return nil, api.ErrShort
	case !bytes.Equal(left[:4], plainSum(out)):
		return nil, api.ErrSum
	case len(left) > 4:
		return nil, api.ErrBad
	}
	return out, api.OK
}
