package param

import (
	"slices"

	"sluicegate/api"
	"sluicegate/value"
)

// readFlag answers whether the first byte of b is the mark, else it must be 0, and what is left behind it.
func readFlag(b []byte, mark byte) (is bool, left []byte, e api.Errno) {
	if len(b) == 0 {
		return false, nil, api.ErrShort
	}
	if b[0] != 0 && b[0] != mark {
		return false, nil, api.ErrBad
	}
	return b[0] == mark, b[1:], api.OK
}

// readTypes answers n types that are told anew, and what is left behind them.
func readTypes(b []byte, n int) (types []api.Typed, left []byte, e api.Errno) {
	left = b
	for range n {
		if len(left) == 0 {
			return nil, nil, api.ErrShort
		}
		t := api.Typed{Type: left[0]}
		if isUnknown(t) {
			return nil, nil, api.ErrBad
		}
		t.Unsigned, left, e = readFlag(left[1:], unsignedMark)
		if e != api.OK {
			return nil, nil, e
		}
		types = append(types, t)
	}
	return types, left, api.OK
}

// typesAhead answers the first n of the types that were told ahead, of which there may be fewer.
func typesAhead(ahead []api.Typed, n int) (types []api.Typed, e api.Errno) {
	if len(ahead) < n || slices.ContainsFunc(ahead[:n], isUnknown) {
		return nil, api.ErrBad
	}
	return ahead[:n], api.OK
}

func isUnknown(t api.Typed) bool {
	return value.Kind(t) < 0
}

// readParams answers a parameter of each type, with the values of those that have one in b, if that is all of b.
func readParams(b []byte, types []api.Typed, m marks) (l []api.Param, e api.Errno) {
	for i, t := range types {
		p := api.Param{Typed: t, Long: m.isLong(i)}
		if !p.Long && !m.isNull(i) {
			p.Value, b, e = readValue(b, t)
			if e != api.OK {
				return nil, e
			}
		}
		l = append(l, p)
	}
	e = ended(b)
	if e != api.OK {
		return nil, e
	}
	return l, api.OK
}

// readValue answers the value at the beginning of b, and what is left behind it. As a parameter of TypeNull can have none, it is refused here, where it is reached: what is wrong ahead of it counts first.
func readValue(b []byte, t api.Typed) (v api.Value, left []byte, e api.Errno) {
	if t.Type == api.TypeNull {
		return api.Value{}, nil, api.ErrBad
	}
	v, size, e := value.Read(b, t)
	if e != api.OK {
		return api.Value{}, nil, e
	}
	return v, b[size:], api.OK
}

// ended answers ErrBad, if bytes are left.
func ended(b []byte) api.Errno {
	if len(b) > 0 {
		return api.ErrBad
	}
	return api.OK
}
