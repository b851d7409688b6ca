package expr_test

import (
	"math"
	"testing"

	"gangway/api"
	"gangway/expr"
)

func TestP1102Add(t *testing.T) {
	checkAdd(t, num(2), num(3), num(5), api.OK)
	checkAdd(t, val("a", "", 2), num(3), val("a", "", 5), api.OK)
	checkAdd(t, num(2), val("", "b", 3), val("", "b", 5), api.OK)
	checkAdd(t, val("a", "", 2), val("", "b", -3), val("a", "b", -1), api.OK)
	checkAdd(t, val("a", "b", 1), num(1), val("a", "b", 2), api.OK)
	checkAdd(t, num(1), val("a", "b", 1), val("a", "b", 2), api.OK)
}

func TestP1102NamesFallAway(t *testing.T) {
	checkAdd(t, val("a", "", 1), val("", "a", 2), num(3), api.OK)
	checkAdd(t, val("", "a", 1), val("a", "", 2), num(3), api.OK)
	checkAdd(t, val("a", "b", 1), val("b", "a", 2), num(3), api.OK)
	checkAdd(t, val("a", "b", 1), val("b", "", 2), val("a", "", 3), api.OK)
	checkAdd(t, val("a", "b", 1), val("", "a", 2), val("", "b", 3), api.OK)
	checkAdd(t, val("a", "b", 1), val("b", "c", 2), val("a", "c", 3), api.OK)
	checkAdd(t, val("a", "b", 1), val("c", "a", 2), val("c", "b", 3), api.OK)
}

func TestP1102TwoOfAKind(t *testing.T) {
	for _, pair := range [][2]expr.Value{
		{val("a", "", 0), val("b", "", 0)},
		{val("a", "", 0), val("a", "", 0)},
		{val("", "a", 0), val("", "b", 0)},
		{val("", "a", 0), val("", "a", 0)},
		{val("a", "b", 0), val("c", "", 0)},
		{val("a", "b", 0), val("", "c", 0)},
		{val("a", "b", 0), val("c", "d", 0)},
		{val("a", "b", 0), val("a", "b", 0)},
		{val("a", "b", 0), val("a", "", 0)},
	} {
		checkAdd(t, pair[0], pair[1], expr.Value{}, api.ErrExpr)
		checkAdd(t, pair[1], pair[0], expr.Value{}, api.ErrExpr)
	}
	checkSub(t, val("a", "", 0), val("", "b", 0), expr.Value{}, api.ErrExpr)
	checkSub(t, val("", "a", 0), val("b", "", 0), expr.Value{}, api.ErrExpr)
}

// TestP1102OneName: a value whose names are one has none.
func TestP1102OneName(t *testing.T) {
	checkAdd(t, val("a", "a", 1), num(2), num(3), api.OK)
	checkAdd(t, num(2), val("a", "a", 1), num(3), api.OK)
	checkAdd(t, val("a", "a", 1), val("b", "c", 2), val("b", "c", 3), api.OK)
	checkAdd(t, val("b", "c", 2), val("a", "a", 1), val("b", "c", 3), api.OK)
	checkAdd(t, val("a", "a", 1), val("b", "b", 2), num(3), api.OK)
	checkAdd(t, val("a", "a", 1), val("a", "a", 2), num(3), api.OK)
	checkAdd(t, val("a", "a", 1), val("a", "b", 2), val("a", "b", 3), api.OK)
	checkSub(t, val("a", "a", 1), val("b", "c", 2), val("c", "b", -1), api.OK)
	checkSub(t, val("b", "c", 2), val("a", "a", 1), val("b", "c", 1), api.OK)
	checkSub(t, num(0), val("a", "a", 1), num(-1), api.OK)
}

func TestP1102Sub(t *testing.T) {
	checkSub(t, num(2), num(3), num(-1), api.OK)
	checkSub(t, val("a", "", 2), val("b", "", 3), val("a", "b", -1), api.OK)
	checkSub(t, val("a", "", 2), val("a", "", 3), num(-1), api.OK)
	checkSub(t, val("a", "b", 2), val("a", "b", 3), num(-1), api.OK)
	checkSub(t, num(2), val("a", "b", 3), val("b", "a", -1), api.OK)
	checkSub(t, val("", "b", 2), val("", "c", 3), val("c", "b", -1), api.OK)
	checkSub(t, val("a", "b", 0), val("", "b", 0), val("a", "", 0), api.OK)
}

// TestP1102WrapsRound: sums and differences are those mod 2^64.
func TestP1102WrapsRound(t *testing.T) {
	checkAdd(t, num(math.MaxInt), num(1), num(math.MinInt), api.OK)
	checkAdd(t, num(math.MinInt), num(-1), num(math.MaxInt), api.OK)
	checkAdd(t, num(math.MinInt), num(math.MinInt), num(0), api.OK)
	checkSub(t, num(0), num(math.MinInt), num(math.MinInt), api.OK)
	checkSub(t, num(-1), num(math.MinInt), num(math.MaxInt), api.OK)
	checkSub(t, num(math.MinInt), num(1), num(math.MaxInt), api.OK)
	checkSub(t, val("a", "", math.MinInt), val("b", "", math.MaxInt), val("a", "b", 1), api.OK)
}

func TestP1102AsTheModel(t *testing.T) {
	l := values(0, 1, -3, math.MinInt, math.MaxInt)
	for _, a := range l {
		for _, b := range l {
			v, e := modelScaled(a, b, 1)
			checkAdd(t, a, b, v, e)
			v, e = modelScaled(a, b, -1)
			checkSub(t, a, b, v, e)
		}
	}
}

// TestP1103Sums: + and - are Add and Sub, of values with names, too.
func TestP1103Sums(t *testing.T) {
	for _, a := range values(0, 5, math.MinInt) {
		for _, b := range values(0, -7, math.MinInt) {
			v, e := expr.Add(a, b)
			checkTwo(t, "+", a, b, v, e)
			v, e = expr.Sub(a, b)
			checkTwo(t, "-", a, b, v, e)
		}
	}
}

func TestP1103Products(t *testing.T) {
	checkTwo(t, "*", num(6), num(-7), num(-42), api.OK)
	checkTwo(t, "*", num(math.MaxInt), num(2), num(-2), api.OK)
	checkTwo(t, "*", num(math.MinInt), num(-1), num(math.MinInt), api.OK)
	checkTwo(t, "*", num(1<<32), num(1<<32), num(0), api.OK)
	checkTwo(t, "*", num(1<<32), num(1<<31), num(math.MinInt), api.OK)
}

func TestP1103Quotients(t *testing.T) {
	checkTwo(t, "/", num(7), num(2), num(3), api.OK)
	checkTwo(t, "/", num(-7), num(2), num(-3), api.OK)
	checkTwo(t, "/", num(7), num(-2), num(-3), api.OK)
	checkTwo(t, "/", num(-7), num(-2), num(3), api.OK)
	checkTwo(t, "/", num(-1), num(2), num(0), api.OK)
	checkTwo(t, "/", num(0), num(5), num(0), api.OK)
	checkTwo(t, "/", num(math.MinInt), num(-1), num(math.MinInt), api.OK)
	checkTwo(t, "/", num(math.MinInt), num(1), num(math.MinInt), api.OK)
	checkTwo(t, "/", num(math.MaxInt), num(-1), num(-math.MaxInt), api.OK)
	for _, n := range numbers() {
		checkTwo(t, "/", num(n), num(0), expr.Value{}, api.ErrExpr)
	}
}

func TestP1103Shifts(t *testing.T) {
	checkTwo(t, "<<", num(1), num(4), num(16), api.OK)
	checkTwo(t, "<<", num(-1), num(0), num(-1), api.OK)
	checkTwo(t, "<<", num(1), num(63), num(math.MinInt), api.OK)
	checkTwo(t, "<<", num(3), num(63), num(math.MinInt), api.OK)
	checkTwo(t, "<<", num(2), num(63), num(0), api.OK)
	checkTwo(t, ">>", num(16), num(4), num(1), api.OK)
	checkTwo(t, ">>", num(-1), num(0), num(-1), api.OK)
	checkTwo(t, ">>", num(-1), num(1), num(math.MaxInt), api.OK)
	checkTwo(t, ">>", num(-1), num(63), num(1), api.OK)
	checkTwo(t, ">>", num(math.MinInt), num(62), num(2), api.OK)
	for _, sign := range []string{"<<", ">>"} {
		for _, by := range []int{-1, 64, 65, -64, 1 << 32, math.MinInt, math.MaxInt} {
			checkTwo(t, sign, num(1), num(by), expr.Value{}, api.ErrExpr)
			checkTwo(t, sign, num(0), num(by), expr.Value{}, api.ErrExpr)
		}
	}
}

func TestP1103Bits(t *testing.T) {
	checkTwo(t, "&", num(12), num(10), num(8), api.OK)
	checkTwo(t, "|", num(12), num(10), num(14), api.OK)
	checkTwo(t, "^", num(12), num(10), num(6), api.OK)
	checkTwo(t, "&", num(-1), num(math.MinInt), num(math.MinInt), api.OK)
	checkTwo(t, "|", num(1), num(math.MinInt), num(math.MinInt+1), api.OK)
	checkTwo(t, "^", num(-1), num(math.MinInt), num(math.MaxInt), api.OK)
}

// TestP1103Names: what is no number is refused on either side; of one name, more and less, it is one.
func TestP1103Names(t *testing.T) {
	for _, sign := range twos()[:7] {
		for _, named := range []expr.Value{val("a", "", 1), val("", "a", 1), val("a", "b", 1)} {
			checkTwo(t, sign, named, num(1), expr.Value{}, api.ErrExpr)
			checkTwo(t, sign, num(1), named, expr.Value{}, api.ErrExpr)
			checkTwo(t, sign, num(0), named, expr.Value{}, api.ErrExpr)
			checkTwo(t, sign, named, named, expr.Value{}, api.ErrExpr)
		}
		want, e := expr.Two(sign, num(12), num(5))
		checkTwo(t, sign, val("a", "a", 12), num(5), want, e)
		checkTwo(t, sign, num(12), val("a", "a", 5), want, e)
		checkTwo(t, sign, val("a", "a", 12), val("b", "b", 5), want, e)
	}
}

func TestP1103OtherSigns(t *testing.T) {
	for _, sign := range []string{"", "~", "(", ")", ",", ":", "$", "@", "=", "<", ">", "<<<", "++", " +", "+ ", "**", "%", "a", "0", "\x00", "and", "//"} {
		checkTwo(t, sign, num(6), num(3), expr.Value{}, api.ErrExpr)
		checkTwo(t, sign, val("a", "", 6), num(3), expr.Value{}, api.ErrExpr)
	}
}

func TestP1103AsTheModel(t *testing.T) {
	for _, sign := range append(twos(), "", "~", "%", "<") {
		for _, a := range numbers() {
			for _, b := range numbers() {
				v, e := modelTwo(sign, num(a), num(b))
				checkTwo(t, sign, num(a), num(b), v, e)
			}
		}
		for _, a := range values(0, 9) {
			for _, b := range values(0, 2) {
				v, e := modelTwo(sign, a, b)
				checkTwo(t, sign, a, b, v, e)
			}
		}
	}
}

func TestP1105Text(t *testing.T) {
	checkText(t, num(0), "0")
	checkText(t, num(7), "7")
	checkText(t, num(-7), "-7")
	checkText(t, num(math.MinInt), "-9223372036854775808")
	checkText(t, num(math.MaxInt), "9223372036854775807")
	checkText(t, val("a", "", 0), "a")
	checkText(t, val("a", "", 7), "a+7")
	checkText(t, val("a", "", -7), "a-7")
	checkText(t, val("", "b", 0), "-b")
	checkText(t, val("", "b", 7), "-b+7")
	checkText(t, val("", "b", -7), "-b-7")
	checkText(t, val("a", "b", 0), "a-b")
	checkText(t, val("a", "b", 1), "a-b+1")
	checkText(t, val("a", "b", -3), "a-b-3")
	checkText(t, val("a", "b", math.MinInt), "a-b-9223372036854775808")
}

// TestP1105AnyNames: they are told as they are, be they no Names of the lexer, or one.
func TestP1105AnyNames(t *testing.T) {
	checkText(t, val("a", "a", 0), "a-a")
	checkText(t, val("a", "a", 5), "a-a+5")
	checkText(t, val(" ", "-", 5), " --+5")
	checkText(t, val("\x00\n", "", -1), "\x00\n-1")
	checkText(t, val("", "+", 0), "-+")
}

func TestP1105AsTheModel(t *testing.T) {
	for _, v := range values(numbers()...) {
		checkText(t, v, modelText(v))
	}
}
