package expr

import "gangway/api"

// Levels of operators of two, the tightest first.
const (
	products = iota
	bitwise
	sums
	levels
)

// operator: of two.
type operator struct {
	level int
	apply func(a, b Value) (Value, api.Errno)
}

// operators: by their signs.
func operators() map[string]operator {
	return map[string]operator{
		"*":  {products, ofNumbers(product)},
		"/":  {products, ofNumbers(quotient)},
		"<<": {products, ofNumbers(shiftLeft)},
		">>": {products, ofNumbers(shiftRight)},
		"&":  {bitwise, ofNumbers(func(a, b int) (int, api.Errno) { return a & b, api.OK })},
		"|":  {bitwise, ofNumbers(func(a, b int) (int, api.Errno) { return a | b, api.OK })},
		"^":  {bitwise, ofNumbers(func(a, b int) (int, api.Errno) { return a ^ b, api.OK })},
		"+":  {sums, Add},
		"-":  {sums, Sub},
	}
}

// ofNumbers: what takes ints, as an operator of values that refuses names.
func ofNumbers(f func(a, b int) (int, api.Errno)) func(a, b Value) (Value, api.Errno) {
	return func(a, b Value) (Value, api.Errno) {
		if !isNumber(a) || !isNumber(b) {
			return Value{}, api.ErrExpr
		}
		n, e := f(a.N, b.N)
		return Value{N: n}, e
	}
}

func product(a, b int) (int, api.Errno) { return a * b, api.OK }

// quotient: of -2^63 and -1 Go's own wraps round, as it must here.
func quotient(a, b int) (int, api.Errno) {
	if b == 0 {
		return 0, api.ErrExpr
	}
	return a / b, api.OK
}

func shiftLeft(a, by int) (int, api.Errno) {
	if !isShift(by) {
		return 0, api.ErrExpr
	}
	return a << by, api.OK
}

// shiftRight: of bits without a sign, so that 0 comes in.
func shiftRight(a, by int) (int, api.Errno) {
	if !isShift(by) {
		return 0, api.ErrExpr
	}
	return int(uint64(a) >> by), api.OK
}

func isShift(by int) bool { return by >= 0 && by <= 63 }

// one: an operator of one.
func one(sign string, v Value) (Value, api.Errno) {
	switch sign {
	case "-":
		return Sub(Value{}, v)
	case "~":
		if !isNumber(v) {
			return Value{}, api.ErrExpr
		}
		return Value{N: ^v.N}, api.OK
	}
	return v, api.OK
}

// reduced: the same value without both names, if they are one.
func reduced(v Value) Value {
	if v.Plus == v.Minus {
		return Value{N: v.N}
	}
	return v
}

func isNumber(v Value) bool { return reduced(v) == Value{N: v.N} }
