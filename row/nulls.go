package row

import (
	"bytes"

	"sluicegate/api"
)

// firstByte stands ahead of a binary row's bits.
const firstByte = 0

// bitsAhead is how many bits, which are no column's, stand ahead of the first column's.
const bitsAhead = 2

// nullBytes is how many bytes the bits of n columns have.
func nullBytes(n int) int {
	return (n + bitsAhead + 7) / 8
}

func setNull(nulls []byte, i int) {
	bit := i + bitsAhead
	nulls[bit/8] |= 1 << (bit % 8)
}

func hasNull(nulls []byte, i int) bool {
	bit := i + bitsAhead
	return nulls[bit/8]>>(bit%8)&1 == 1
}

// readNulls answers the bits of a binary row, and what is left behind them.
func readNulls(b []byte, types []api.Typed) (nulls, left []byte, e api.Errno) {
	if len(b) == 0 {
		return nil, nil, api.ErrShort
	}
	if b[0] != firstByte {
		return nil, nil, api.ErrBad
	}
	size := nullBytes(len(types))
	if len(b)-1 < size {
		return nil, nil, api.ErrShort
	}
	nulls, left = b[1:1+size], b[1+size:]
	if !mayBeNulls(nulls, types) {
		return nil, nil, api.ErrBad
	}
	return nulls, left, api.OK
}

// mayBeNulls sets the columns' own bits anew: all others are strays.
func mayBeNulls(nulls []byte, types []api.Typed) bool {
	own := make([]byte, len(nulls))
	for i, t := range types {
		if hasNull(nulls, i) {
			setNull(own, i)
		} else if t.Type == api.TypeNull {
			return false
		}
	}
	return bytes.Equal(own, nulls)
}
