package object

import (
	"gangway/api"
	"gangway/expr"
)

func isNumber(v expr.Value) bool { return v.Plus == "" && v.Minus == "" }

// lowBytes: of a number, the low one first.
func lowBytes(n, size int) []byte {
	b := make([]byte, size)
	for k := range b {
		b[k] = byte(n >> (8 * k))
	}
	return b
}

// sum: as it truly is; past is 1 or -1, if it is above or below all ints (n is then as many as 2^64 too few or too many).
func sum(a, b int) (n, past int) {
	n = a + b
	switch {
	case a > 0 && b > 0 && n < 0:
		past = 1
	case a < 0 && b < 0 && n >= 0:
		past = -1
	}
	return n, past
}

// fits: whether a sum may stand in so many bytes, be it as a number with a sign or as one without.
func fits(n, past, size int) bool {
	if size == 8 {
		return past >= 0
	}
	return past == 0 && -1<<(8*size-1) <= n && n < 1<<(8*size)
}

// putIn: a value with names, where every place is known.
func (x *source) putIn(v expr.Value, here spot, size int) api.Errno {
	s, at := here.in, here.at()
	if n, ok := x.between(v.Plus, v.Minus); ok {
		return s.setSum(at, size, n, v.N)
	}
	minus, isLabel := x.labelOf(v.Minus)
	switch {
	case v.Minus == "" && size == 8:
		s.leave(at, api.R64, v.Plus, v.N)
	case v.Minus == "" && size == 4:
		s.leave(at, api.R32, v.Plus, v.N)
	case v.Plus != "" && isLabel && minus.in == s && size == 4:
		s.leave(at, api.RPc32, v.Plus, v.N+at-minus.at())
	default:
		return api.ErrReloc
	}
	return api.OK
}

func (s *section) setSum(at, size, a, b int) api.Errno {
	n, past := sum(a, b)
	if !fits(n, past, size) {
		return api.ErrRange
	}
	s.set(at, size, n)
	return api.OK
}
