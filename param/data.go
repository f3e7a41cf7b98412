package param

import (
	"slices"

	"sluicegate/api"
	"sluicegate/value"
)

// What a byte says that is 0 where its thing is not so.
const (
	boundMark    = 1
	unsignedMark = 128
)

// mayBe tells whether a list of parameters may be.
func mayBe(l []api.Param) bool {
	for _, p := range l {
		if value.Check(p.Value, p.Typed) != api.OK || p.Long && !isNull(p) {
			return false
		}
	}
	return true
}

// isNull leans on the value being one that may be: so nothing but its kind tells.
func isNull(p api.Param) bool {
	return p.Value.Kind == api.ValueNull
}

// dataOf leans on the list being one that may be: so no value is refused.
func dataOf(l []api.Param, bound bool) []byte {
	if len(l) == 0 {
		return nil
	}
	if !bound {
		return slices.Concat(nullsOf(l), []byte{0}, valuesOf(l))
	}
	return slices.Concat(nullsOf(l), []byte{boundMark}, typesOf(l), valuesOf(l))
}

func nullsOf(l []api.Param) []byte {
	nulls := make([]byte, nullBytes(len(l)))
	for i, p := range l {
		if isNull(p) && !p.Long {
			setNull(nulls, i)
		}
	}
	return nulls
}

func typesOf(l []api.Param) []byte {
	var out []byte
	for _, p := range l {
		sign := byte(0)
		if p.Typed.Unsigned {
			sign = unsignedMark
		}
		out = append(out, p.Typed.Type, sign)
	}
	return out
}

// valuesOf has nothing of a Long one, as its value is Null.
func valuesOf(l []api.Param) []byte {
	var out []byte
	for _, p := range l {
		if isNull(p) {
			continue
		}
		own, _ := value.Append(nil, p.Value, p.Typed)
		out = append(out, own...)
	}
	return out
}
