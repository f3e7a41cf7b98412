package param

import "sluicegate/api"

// marks tell of each parameter whether it is Null, and whether it is Long.
type marks struct {
	nulls []byte
	long  []bool
}

// nullBytes is how many bytes the bits of n parameters have.
func nullBytes(n int) int {
	return (n + 7) / 8
}

func setNull(nulls []byte, i int) {
	nulls[i/8] |= 1 << (i % 8)
}

func (m marks) isNull(i int) bool {
	return m.nulls[i/8]>>(i%8)&1 == 1
}

// isLong guards the length: beyond the list's end none is Long.
func (m marks) isLong(i int) bool {
	return i < len(m.long) && m.long[i]
}

// readMarks answers the marks of n parameters, and what is left behind their bits.
func readMarks(b []byte, n int, long []bool) (m marks, left []byte, e api.Errno) {
	size := nullBytes(n)
	if len(b) < size {
		return marks{}, nil, api.ErrShort
	}
	m = marks{nulls: b[:size], long: long}
	for i := range 8 * size {
		if m.isNull(i) && (i >= n || m.isLong(i)) {
			return marks{}, nil, api.ErrBad
		}
	}
	return m, b[size:], api.OK
}
