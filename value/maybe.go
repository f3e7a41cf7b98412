package value

import "sluicegate/api"

// mostText is how many bytes a text has at most.
const mostText = 1 << 24

// mayBe tells whether a value may be of a type that is known.
func mayBe(v api.Value, t api.Typed) bool {
	if v == (api.Value{}) {
		return true
	}
	if v.Kind != Kind(t) {
		return false
	}
	switch n := size(t.Type); v.Kind {
	case api.ValueInt:
		return v == (api.Value{Kind: v.Kind, Int: v.Int}) && v.Int == signed(uint64(v.Int), n)
	case api.ValueUint, api.ValueFloat, api.ValueDouble:
		return v == (api.Value{Kind: v.Kind, Bits: v.Bits}) && v.Bits == unsigned(v.Bits, n)
	case api.ValueDate:
		return v == (api.Value{Kind: v.Kind, When: v.When}) && isDate(v.When, t.Type)
	case api.ValueTime:
		return v == (api.Value{Kind: v.Kind, When: v.When}) && isTime(v.When)
	case api.ValueText:
		return v == (api.Value{Kind: v.Kind, Text: v.Text}) && len(v.Text) <= mostText
	}
	return false
}

// size is how many bytes a number, a float or a double has; 0 of all other types.
func size(t byte) int {
	switch t {
	case api.TypeTiny:
		return 1
	case api.TypeShort, api.TypeYear:
		return 2
	case api.TypeLong, api.TypeInt24, api.TypeFloat:
		return 4
	case api.TypeLongLong, api.TypeDouble:
		return 8
	}
	return 0
}

// signed is the number whose n bytes are the lowest of x, the highest bit of them being its sign.
func signed(x uint64, n int) int64 {
	switch n {
	case 1:
		return int64(int8(x))
	case 2:
		return int64(int16(x))
	case 4:
		return int64(int32(x))
	}
	return int64(x)
}

// unsigned is the number whose n bytes are the lowest of x.
func unsigned(x uint64, n int) uint64 {
	switch n {
	case 1:
		return uint64(uint8(x))
	case 2:
		return uint64(uint16(x))
	case 4:
		return uint64(uint32(x))
	}
	return x
}

func isDate(w api.When, t byte) bool {
	if t == api.TypeDate && !isMidnight(w) {
		return false
	}
	return !w.Neg && within(w.Year, 9999) && within(w.Month, 12) && within(w.Day, 31) && isClock(w)
}

func isTime(w api.When) bool {
	if w == (api.When{Neg: true}) {
		return false
	}
	return w.Year == 0 && w.Month == 0 && within(w.Day, 34) && isClock(w)
}

// isClock tells whether a time of day may be.
func isClock(w api.When) bool {
	return within(w.Hour, 23) && within(w.Minute, 59) && within(w.Second, 59) && within(w.Micro, 999_999)
}

func isMidnight(w api.When) bool {
	return w.Hour == 0 && w.Minute == 0 && w.Second == 0 && w.Micro == 0
}

func within(x, most int) bool {
	return x >= 0 && x <= most
}
