package reply

import "sluicegate/api"

// eofSize is how many bytes an EOF has: what begins as one and has others is a row.
const eofSize = 5

// First answers what b is as the first packet of a query's answer.
func First(b []byte, c api.Caps) int {
	if len(b) == 0 {
		return api.KindOther
	}
	switch b[0] {
	case okMark:
		return api.KindOk
	case errMark:
		return api.KindErr
	case fileMark:
		if c&api.CapLocalFiles != 0 {
			return api.KindFile
		}
	}
	return api.KindOther
}

// Last answers what b is where rows may end.
func Last(b []byte, c api.Caps) int {
	if len(b) == 0 {
		return api.KindOther
	}
	deprecated := c&api.CapDeprecateEOF != 0
	switch b[0] {
	case errMark:
		return api.KindErr
	case lastMark:
		if !deprecated && len(b) == eofSize {
			return api.KindEof
		}
		// A row begins so too, if its first value's count has eight bytes: it is then no shorter than a frame.
		if deprecated && len(b) < api.MaxFrame {
			return api.KindOk
		}
	}
	return api.KindOther
}
