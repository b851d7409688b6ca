package expr_test

import (
	"fmt"
	"math/big"

	"gangway/api"
	"gangway/expr"
	"gangway/lexer"
)

// The model: a value is a whole number and how many times each name's address is in it; an expression is worked with two stacks, token by token.

// sum: of what a value counts.
type sum struct {
	n     *big.Int
	times map[string]int
}

func modelSum(v expr.Value) sum {
	s := sum{n: big.NewInt(int64(v.N)), times: map[string]int{}}
	if v.Plus != "" {
		s.times[v.Plus]++
	}
	if v.Minus != "" {
		s.times[v.Minus]--
	}
	return s
}

// wrapped: the number of 64 bits that is the same mod 2^64.
func wrapped(n *big.Int) int {
	low := new(big.Int).And(n, new(big.Int).SetUint64(1<<64-1))
	return int(low.Uint64())
}

// value: false, if it has more than one name's address more, or less.
func (s sum) value() (v expr.Value, ok bool) {
	v.N = wrapped(s.n)
	more, less := 0, 0
	for name, times := range s.times {
		if times > 0 {
			v.Plus = name
			more += times
		}
		if times < 0 {
			v.Minus = name
			less -= times
		}
	}
	return v, more <= 1 && less <= 1
}

// modelReduce: the value without a name that is in it once more and once less.
func modelReduce(v expr.Value) expr.Value {
	v, _ = modelSum(v).value()
	return v
}

func modelScaled(a, b expr.Value, times int) (expr.Value, api.Errno) {
	x, y := modelSum(a), modelSum(b)
	x.n.Add(x.n, new(big.Int).Mul(y.n, big.NewInt(int64(times))))
	for name, k := range y.times {
		x.times[name] += k * times
	}
	v, ok := x.value()
	if !ok {
		return expr.Value{}, api.ErrExpr
	}
	return v, api.OK
}

func modelTwo(sign string, a, b expr.Value) (expr.Value, api.Errno) {
	switch sign {
	case "+":
		return modelScaled(a, b, 1)
	case "-":
		return modelScaled(a, b, -1)
	}
	a, b = modelReduce(a), modelReduce(b)
	if a.Plus+a.Minus+b.Plus+b.Minus != "" {
		return expr.Value{}, api.ErrExpr
	}
	n, ok := modelNumbers(sign, big.NewInt(int64(a.N)), big.NewInt(int64(b.N)))
	if !ok {
		return expr.Value{}, api.ErrExpr
	}
	return expr.Value{N: wrapped(n)}, api.OK
}

func modelNumbers(sign string, a, b *big.Int) (*big.Int, bool) {
	shifts := b.Sign() >= 0 && b.Cmp(big.NewInt(63)) <= 0
	n := new(big.Int)
	switch sign {
	case "*":
		return n.Mul(a, b), true
	case "/":
		if b.Sign() == 0 {
			return n, false
		}
		return n.Quo(a, b), true
	case "<<":
		return n.Lsh(a, uint(b.Int64()&63)), shifts
	case ">>":
		bits := new(big.Int).And(a, new(big.Int).SetUint64(1<<64-1))
		return n.Rsh(bits, uint(b.Int64()&63)), shifts
	case "&":
		return n.And(a, b), true
	case "|":
		return n.Or(a, b), true
	case "^":
		return n.Xor(a, b), true
	}
	return n, false
}

// modelLevel: of an operator of two, the tightest 3; 0 of any other token.
func modelLevel(t lexer.Token) int {
	if t.Kind != lexer.Sign {
		return 0
	}
	switch t.Text {
	case "*", "/", "<<", ">>":
		return 3
	case "&", "|", "^":
		return 2
	case "+", "-":
		return 1
	}
	return 0
}

// stacks: values, and signs that wait for what they take; "1" ahead of one of one.
type stacks struct {
	values []expr.Value
	signs  []string
}

func (s *stacks) top() string {
	if len(s.signs) == 0 {
		return ""
	}
	return s.signs[len(s.signs)-1]
}

func (s *stacks) popValue() expr.Value {
	v := s.values[len(s.values)-1]
	s.values = s.values[:len(s.values)-1]
	return v
}

// work: the uppermost sign.
func (s *stacks) work() api.Errno {
	sign := s.top()
	s.signs = s.signs[:len(s.signs)-1]
	b := s.popValue()
	v, e := b, api.OK
	switch sign {
	case "1+":
	case "1-":
		v, e = modelTwo("-", expr.Value{}, b)
	case "1~":
		v, e = modelTwo("-", expr.Value{N: -1}, b)
		if b = modelReduce(b); b.Plus+b.Minus != "" {
			e = api.ErrExpr
		}
	default:
		v, e = modelTwo(sign, s.popValue(), b)
	}
	s.values = append(s.values, v)
	return e
}

// workDown: signs of one, and those of two of this level or a tighter one.
func (s *stacks) workDown(level int) api.Errno {
	for {
		sign := s.top()
		if sign == "" || sign == "(" {
			return api.OK
		}
		if sign[0] != '1' && modelLevel(lexer.Token{Kind: lexer.Sign, Text: sign}) < level {
			return api.OK
		}
		if e := s.work(); e != api.OK {
			return e
		}
	}
}

func modelMeaning(name string, known []expr.Def) expr.Value {
	for _, d := range known {
		if d.Name == name {
			return modelReduce(d.V)
		}
	}
	return expr.Value{Plus: name}
}

func isOf(t lexer.Token, signs ...string) bool {
	for _, s := range signs {
		if t.Kind == lexer.Sign && t.Text == s {
			return true
		}
	}
	return false
}

// modelEval: at each token an operand is awaited, or something behind one.
func modelEval(l []lexer.Token, at int, known []expr.Def) (expr.Value, int, api.Errno) {
	none := func(e api.Errno) (expr.Value, int, api.Errno) { return expr.Value{}, 0, e }
	if at < 0 || at > len(l) {
		return none(api.ErrRange)
	}
	s, depth, ones, awaited := &stacks{}, 0, 0, true
	for ; ; at++ {
		var t lexer.Token
		if at < len(l) {
			t = l[at]
		}
		e := api.OK
		switch {
		case awaited && isOf(t, "("):
			s.signs = append(s.signs, "(")
			depth, ones = depth+1, 0
			if depth > 50 {
				e = api.ErrSize
			}
		case awaited && isOf(t, "-", "+", "~"):
			s.signs = append(s.signs, "1"+t.Text)
			ones++
			if ones > 200 {
				e = api.ErrSize
			}
		case awaited && t.Kind == lexer.Number:
			s.values = append(s.values, expr.Value{N: t.N})
			awaited, e = false, s.workDown(4)
		case awaited && t.Kind == lexer.Name:
			s.values = append(s.values, modelMeaning(t.Text, known))
			awaited, e = false, s.workDown(4)
		case awaited:
			e = api.ErrExpr
		case modelLevel(t) > 0:
			e = s.workDown(modelLevel(t))
			s.signs = append(s.signs, t.Text)
			awaited, ones = true, 0
		case isOf(t, ")") && depth > 0:
			if e = s.workDown(0); e == api.OK {
				s.signs = s.signs[:len(s.signs)-1]
				depth--
				e = s.workDown(4)
			}
		case depth > 0:
			e = api.ErrExpr
		default:
			if e = s.workDown(0); e == api.OK {
				return s.values[0], at, api.OK
			}
		}
		if e != api.OK {
			return none(e)
		}
	}
}

func modelText(v expr.Value) string {
	s := v.Plus
	if v.Minus != "" {
		s = fmt.Sprintf("%s-%s", s, v.Minus)
	}
	if s == "" {
		return fmt.Sprintf("%d", v.N)
	}
	if v.N == 0 {
		return s
	}
	return fmt.Sprintf("%s%+d", s, v.N)
}
