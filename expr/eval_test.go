package expr_test

import (
	"math"
	"slices"
	"strings"
	"testing"

	"gangway/api"
	"gangway/expr"
	"gangway/lexer"
)

// TestP1104Examples: those of the chapter.
func TestP1104Examples(t *testing.T) {
	is(t, "1 + 2 * 3", num(7))
	is(t, "(1 + 2) * 3", num(9))
	is(t, "1 << 4 | 1", num(17))
	is(t, "foo + 8 - 3", val("foo", "", 5))
	is(t, "foo - bar", val("foo", "bar", 0))
	is(t, "foo - foo", num(0))
	refused(t, "foo + bar", api.ErrExpr)
	is(t, "- - 5", num(5))
	is(t, "~0", num(-1))
	refused(t, "1 / 0", api.ErrExpr)
	refused(t, "2 +", api.ErrExpr)
	endsAt(t, "7 foo", num(7), 1)
	is(t, "-foo", val("", "foo", 0))
}

func TestP1104Operands(t *testing.T) {
	is(t, "7", num(7))
	is(t, "0", num(0))
	is(t, "0xffffffffffffffff", num(-1))
	is(t, "9223372036854775808", num(math.MinInt))
	is(t, "'a'", num(97))
	is(t, "foo", val("foo", "", 0))
	is(t, ".L1", val(".L1", "", 0))
	is(t, ".", val(".", "", 0))
	is(t, "(7)", num(7))
	is(t, "((foo))", val("foo", "", 0))
	is(t, "-(7)", num(-7))
	is(t, "+(-7)", num(-7))
}

// TestP1104Levels: of each two operators of two levels, in both orders, and with brackets that turn them about.
func TestP1104Levels(t *testing.T) {
	is(t, "2 + 12 & 10", num(10))
	is(t, "12 & 10 + 2", num(10))
	is(t, "2 - 8 | 1", num(-7))
	is(t, "5 ^ 1 - 3", num(1))
	is(t, "8 | 1 << 1", num(10))
	is(t, "1 << 1 | 8", num(10))
	is(t, "6 & 2 * 3", num(6))
	is(t, "3 ^ 9 / 4", num(1))
	is(t, "2 + 3 * 4", num(14))
	is(t, "2 * 3 + 4", num(10))
	is(t, "1 + 1 << 2", num(5))
	is(t, "20 - 64 >> 2", num(4))
	is(t, "(1 + 1) << 2", num(8))
	is(t, "(2 + 12) & 10", num(10))
	is(t, "2 * (12 & 10)", num(16))
	is(t, "1 + 6 & 2 * 3 - 1", num(6))
	is(t, "1 * 2 + 3 & 4 | 5 * 6 - 7", num(25))
}

// TestP1104FromTheLeft: those of one level.
func TestP1104FromTheLeft(t *testing.T) {
	is(t, "9 - 3 - 2", num(4))
	is(t, "9 - 3 + 2", num(8))
	is(t, "7 / 2 * 2", num(6))
	is(t, "2 * 7 / 2", num(7))
	is(t, "1 << 2 << 3", num(32))
	is(t, "64 >> 2 << 1", num(32))
	is(t, "1 << 2 * 3", num(12))
	is(t, "3 * 1 << 2", num(12))
	is(t, "100 / 5 / 2", num(10))
	is(t, "1 | 2 & 4", num(0))
	is(t, "7 ^ 3 | 3", num(7))
	is(t, "6 & 3 ^ 1", num(3))
	is(t, "foo - bar + bar", val("foo", "", 0))
	is(t, "foo + 5 - foo + bar", val("bar", "", 5))
}

func TestP1104OperatorsOfOne(t *testing.T) {
	is(t, "-5", num(-5))
	is(t, "+5", num(5))
	is(t, "~5", num(-6))
	is(t, "-~5", num(6))
	is(t, "~-5", num(4))
	is(t, "~+-~5", num(-7))
	is(t, "-+-+5", num(5))
	is(t, "-9223372036854775808", num(math.MinInt))
	is(t, "~0x7fffffffffffffff", num(math.MinInt))
	is(t, "2 - -3", num(5))
	is(t, "2 + ~3", num(-2))
	is(t, "2 * -3", num(-6))
	is(t, "-2 * 3", num(-6))
	is(t, "~1 & 3", num(2))
	is(t, "~1 << 1", num(-4))
	is(t, "-1 >> 63", num(1))
	is(t, "-7 / 2", num(-3))
	is(t, "-foo", val("", "foo", 0))
	is(t, "--foo", val("foo", "", 0))
	is(t, "+foo", val("foo", "", 0))
	is(t, "-(foo - bar + 3)", val("bar", "foo", -3))
	is(t, "~(foo - foo)", num(-1))
	is(t, "2 - -foo", val("foo", "", 2))
	refused(t, "~foo", api.ErrExpr)
	refused(t, "~-foo", api.ErrExpr)
	refused(t, "-~foo", api.ErrExpr)
	refused(t, "~(foo - bar)", api.ErrExpr)
	refused(t, "foo + ~(bar)", api.ErrExpr)
}

func TestP1104Known(t *testing.T) {
	is(t, "k + 1", num(6), def("k", num(5)))
	is(t, "K", val("K", "", 0), def("k", num(5)))
	is(t, "k * k", num(25), def("k", num(5)))
	is(t, "~k", num(-6), def("k", num(5)))
	is(t, "k", num(5), def("j", num(4)), def("k", num(5)), def("k", num(6)), def("j", num(7)))
	is(t, "k - 1", val("a", "b", 2), def("k", val("a", "b", 3)))
	is(t, "k + b", val("a", "", 3), def("k", val("a", "b", 3)))
	is(t, "-k", val("b", "a", -3), def("k", val("a", "b", 3)))
	is(t, "k - a", val("", "b", 3), def("k", val("a", "b", 3)))
	refused(t, "k + a", api.ErrExpr, def("k", val("a", "b", 3)))
	refused(t, "k * 1", api.ErrExpr, def("k", val("a", "", 3)))
	refused(t, "~k", api.ErrExpr, def("k", val("", "b", 3)))
}

// TestP1104KnownOnce: a name within a Def's value stands for itself, be it known or not.
func TestP1104KnownOnce(t *testing.T) {
	known := []expr.Def{def("k", val("j", "", 1)), def("j", num(5)), def("s", val("s", "", 2))}
	is(t, "k", val("j", "", 1), known...)
	is(t, "k + j", val("j", "", 6), known...)
	is(t, "s + 1", val("s", "", 3), known...)
	refused(t, "k * j", api.ErrExpr, known...)
}

// TestP1104KnownOneName: a Def whose value's names are one stands for a number.
func TestP1104KnownOneName(t *testing.T) {
	k := def("k", val("a", "a", 5))
	is(t, "k", num(5), k)
	is(t, "+k", num(5), k)
	is(t, "(k)", num(5), k)
	is(t, "-k", num(-5), k)
	is(t, "~k", num(-6), k)
	is(t, "k * 2", num(10), k)
	is(t, "k + a", val("a", "", 5), k)
	is(t, "k - b + c", val("c", "b", 5), k)
}

// TestP1104ManyNames: many of them, known and not, and Defs of which several have one name.
func TestP1104ManyNames(t *testing.T) {
	known := []expr.Def{def("a", num(1)), def("b", num(10)), def("a", num(100)), def("b", num(1000)), def("c", val("x", "", 0)), def("c", num(5))}
	for n := range 40 {
		text := strings.Repeat("a + b + ", n)
		is(t, text+"1", num(11*n+1), known...)
		is(t, text+"c", val("x", "", 11*n), known...)
		is(t, text+"d", val("d", "", 11*n), known...)
		is(t, text+"d - d + c - x", num(11*n), known...)
		is(t, text+"a", num(11*n+1), known...)
	}
}

func TestP1104Range(t *testing.T) {
	l := tokens(t, "1 + 2")
	for _, at := range []int{math.MinInt, -100, -1, 5, 6, 1 << 40, math.MaxInt} {
		checkAt(t, l, at, nil, expr.Value{}, 0, api.ErrRange)
	}
	checkAt(t, l, 0, nil, num(3), 3, api.OK)
	checkAt(t, l, 1, nil, num(2), 3, api.OK)
	checkAt(t, l, 2, nil, num(2), 3, api.OK)
	checkAt(t, l, 3, nil, expr.Value{}, 0, api.ErrExpr)
	checkAt(t, l, 4, nil, expr.Value{}, 0, api.ErrExpr)
	checkAt(t, l[:3], 3, nil, expr.Value{}, 0, api.ErrExpr)
	checkAt(t, l[:3], 4, nil, expr.Value{}, 0, api.ErrRange)
	checkAt(t, nil, 0, nil, expr.Value{}, 0, api.ErrExpr)
	checkAt(t, nil, 1, nil, expr.Value{}, 0, api.ErrRange)
	checkAt(t, nil, -1, nil, expr.Value{}, 0, api.ErrRange)
}

// TestP1104Ends: what is no operator of two behind an operand ends the expression.
func TestP1104Ends(t *testing.T) {
	for _, behind := range []string{"8", "foo", "\"x\"", "%rax", ";", "(1)", ")", ",", ":", "$", "~1", "~", "@", "=", "(%rax)", ", 2"} {
		endsAt(t, "7 "+behind, num(7), 1)
		endsAt(t, "7 + foo "+behind, val("foo", "", 7), 3)
		endsAt(t, "(7 * 2) "+behind, num(14), 5)
		endsAt(t, "-7 "+behind, num(-7), 2)
		refused(t, "7 + (2 "+strings.Replace(behind, ")", "", 1), api.ErrExpr)
	}
	checkAt(t, []lexer.Token{number(7)}, 0, nil, num(7), 1, api.OK)
	checkAt(t, []lexer.Token{number(7), {Kind: lexer.End}}, 0, nil, num(7), 1, api.OK)
	for kind := -1; kind <= 8; kind++ {
		if kind != lexer.Sign {
			checkAt(t, []lexer.Token{number(7), {Kind: kind, Text: "+"}, number(1)}, 0, nil, num(7), 1, api.OK)
			checkAt(t, []lexer.Token{sign("("), number(7), {Kind: kind, Text: ")"}}, 0, nil, expr.Value{}, 0, api.ErrExpr)
		}
	}
}

// TestP1104NoneBegins: where no operand stands, or one has no end.
func TestP1104NoneBegins(t *testing.T) {
	for _, text := range []string{")", ",", ":", "$1", "@", "=", "*1", "/1", "<<1", ">>1", "&1", "|1", "^1", "\"x\"", "%rax", ";", "()", "(", "((", "(1", "((1)", "(1 2)", "(1, 2)", "(1;)", "-", "+", "~", "- -", "-)", "-*1", "1 +", "1 -", "1 *", "1 /", "1 <<", "1 >>", "1 &", "1 |", "1 ^", "1 + ;2", "1 + )", "1 + * 2", "1 + (", "1 + %rax", "1 + \"x\"", "1 * / 2", "(1 +) 2", "1 + ,", "~\"x\""} {
		refused(t, text, api.ErrExpr)
	}
}

func TestP1104OperatorsRefuse(t *testing.T) {
	for _, text := range []string{"1 / 0", "0 / 0", "1 / (2 - 2)", "1 << 64", "1 << -1", "1 >> 64", "1 >> -1", "1 << -9223372036854775808", "foo + bar", "foo + foo", "-foo - bar", "-foo - foo", "foo * 1", "1 * foo", "foo / 2", "2 / foo", "foo << 1", "1 << foo", "foo >> 1", "foo & 1", "foo | 0", "foo ^ foo", "(foo - bar) * 0", "foo - bar - bar", "foo + bar - bar", "1 + foo | 1", "2 * foo - foo", "(1 / 0)", "1 / 0 foo"} {
		refused(t, text, api.ErrExpr)
	}
	is(t, "1 << 0", num(1))
	is(t, "1 << 63", num(math.MinInt))
	is(t, "-1 >> 0", num(-1))
	is(t, "-1 >> 63", num(1))
	is(t, "-9223372036854775808 / -1", num(math.MinInt))
}

func TestP1104WrapsRound(t *testing.T) {
	is(t, "0x7fffffffffffffff + 1", num(math.MinInt))
	is(t, "0xffffffffffffffff + 1", num(0))
	is(t, "0 - 9223372036854775808 - 1", num(math.MaxInt))
	is(t, "0x7fffffffffffffff * 2", num(-2))
	is(t, "0x100000000 * 0x100000000", num(0))
	is(t, "3 << 63", num(math.MinInt))
	is(t, "foo + 0x7fffffffffffffff + 2", val("foo", "", math.MinInt+1))
}

func TestP1104Depth(t *testing.T) {
	for _, n := range []int{0, 1, 2, 49, 50} {
		is(t, brackets(n, "7"), num(7))
		is(t, "1 + "+brackets(n, "2 * 3")+" + "+brackets(n, "foo"), val("foo", "", 7))
		is(t, brackets(n, "-"+brackets(50-n, "foo")), val("", "foo", 0))
	}
	for _, n := range []int{51, 52, 1000, 30000} {
		refused(t, brackets(n, "7"), api.ErrSize)
		refused(t, "1 + -"+brackets(n, "7"), api.ErrSize)
		refused(t, brackets(50, "1")+"+"+brackets(n, "7"), api.ErrSize)
		refused(t, strings.Repeat("(", n), api.ErrSize)
	}
	refused(t, strings.Repeat("(", 50), api.ErrExpr)
	refused(t, strings.Repeat("-(", 51), api.ErrSize)
	refused(t, brackets(25, "1 + "+brackets(26, "7")), api.ErrSize)
	is(t, strings.Repeat("(1) + ", 200)+"(1)", num(201))
	is(t, "(("+strings.Repeat("((1)) + ", 200)+"(1)))", num(201))
}

func TestP1104Ones(t *testing.T) {
	for n, want := range map[int]int{199: -7, 200: 7} {
		ones := strings.Repeat("-", n)
		is(t, ones+"7", num(want))
		is(t, "1 - "+ones+"7", num(1-want))
		is(t, ones+"("+ones+"7)", num(7))
		is(t, ones+"7 * "+ones+"7 + "+ones+"7", num(49+want))
	}
	is(t, strings.Repeat("-+~ ", 66)+"-+7", num(66-7))
	for _, n := range []int{201, 202, 1000, 60000} {
		for _, one := range []string{"-", "+", "~"} {
			refused(t, strings.Repeat(one, n)+"7", api.ErrSize)
			refused(t, "1 * "+strings.Repeat(one, n)+"(7)", api.ErrSize)
			refused(t, strings.Repeat(one, n), api.ErrSize)
			refused(t, strings.Repeat(one, n)+"foo", api.ErrSize)
		}
	}
	refused(t, strings.Repeat("-", 200), api.ErrExpr)
	refused(t, strings.Repeat("~", 200)+"foo", api.ErrExpr)
	refused(t, strings.Repeat("-", 200)+"(-"+strings.Repeat("+", 200)+"1)", api.ErrSize)
}

// TestP1104FirstFault: where two are there, the one that comes up first, from the left on.
func TestP1104FirstFault(t *testing.T) {
	deep, ones := brackets(51, "1"), strings.Repeat("-", 201)+"1"
	for _, much := range []string{deep, ones} {
		for _, ahead := range []string{"1 / 0 + ", "1 / 0 * ", "foo + bar + ", "foo + foo - ", "foo * 2 & ", "1 | foo & ", "~foo * ", "(1 2) + ", "(1 + ) + ", "1 + * ", "1 + 1 << 64 | ", "(foo + bar) * ", "~(foo) + ", ", "} {
			refused(t, ahead+much, api.ErrExpr)
		}
		for _, ahead := range []string{"foo + bar * ", "foo * ", "1 / ", "~(foo + ", "foo + bar & ", "foo + (bar + ", "1 & foo * ", "(1 << (64 + ", "foo + bar | 1 << ", "~"} {
			refused(t, ahead+much, api.ErrSize)
			refused(t, ahead+much+" / 0", api.ErrSize)
			refused(t, ahead+much+" * foo +", api.ErrSize)
		}
		endsAt(t, "7 , "+much, num(7), 1)
	}
	refused(t, strings.Repeat("(", 50)+ones, api.ErrSize)
	refused(t, strings.Repeat("(", 50)+")"+ones, api.ErrExpr)
	checkAt(t, tokens(t, deep), -1, nil, expr.Value{}, 0, api.ErrRange)
	checkAt(t, tokens(t, deep), 1, nil, num(1), 102, api.OK)
}

// TestP1104AnyTokens: those that lexer.All would not answer; what counts is the kind, and the text of names and signs.
func TestP1104AnyTokens(t *testing.T) {
	l := []lexer.Token{{Kind: lexer.Number, N: 3, Text: "+", Line: -4}, {Kind: lexer.Sign, N: 9, Text: "-"}, {Kind: lexer.Name, N: 5, Text: "1 +"}}
	checkAt(t, l, 0, nil, val("", "1 +", 3), 3, api.OK)
	checkAt(t, l, 0, []expr.Def{def("1 +", num(1))}, num(2), 3, api.OK)
	checkAt(t, []lexer.Token{name("+")}, 0, nil, val("+", "", 0), 1, api.OK)
	checkAt(t, []lexer.Token{name("")}, 0, nil, num(0), 1, api.OK)
	checkAt(t, []lexer.Token{name("")}, 0, []expr.Def{def("", num(3))}, num(3), 1, api.OK)
	for _, text := range []string{"", "<", "++", "a", "1", "( ", "**"} {
		checkAt(t, []lexer.Token{number(7), sign(text), number(1)}, 0, nil, num(7), 1, api.OK)
		checkAt(t, []lexer.Token{sign(text), number(1)}, 0, nil, expr.Value{}, 0, api.ErrExpr)
	}
}

// alphabet: of what short expressions are made: each kind, each level, what ends one.
func alphabet() []lexer.Token {
	return []lexer.Token{number(0), number(3), name("a"), name("b"), name("k"), sign("("), sign(")"), sign("-"), sign("+"), sign("~"), sign("*"), sign("<<"), sign("&"), sign(","), {Kind: lexer.End}}
}

// TestP1104EachShortList: of up to five tokens, as the model has it.
func TestP1104EachShortList(t *testing.T) {
	known := []expr.Def{def("k", num(-2)), def("k", num(9))}
	l := make([]lexer.Token, 0, 5)
	var grow func()
	grow = func() {
		checkModel(t, l, 0, known)
		if len(l) == cap(l) {
			return
		}
		for _, token := range alphabet() {
			l = append(l, token)
			grow()
			l = l[:len(l)-1]
		}
	}
	grow()
}

// TestP1104LongLists: made at random of what mostly goes on, as the model has it, at every place.
func TestP1104LongLists(t *testing.T) {
	known := []expr.Def{def("k", num(5)), def("j", val("a", "", 3)), def("i", val("a", "b", -1)), def("h", val("a", "a", 2))}
	random := seeded(11)
	ends := map[api.Errno]int{}
	for range 30000 {
		l := wildTokens(random, 1+random.IntN(30))
		for at := -1; at <= len(l)+1; at++ {
			checkModel(t, l, at, known)
		}
		_, _, e := expr.Eval(l, 0, known)
		ends[e]++
	}
	if ends[api.OK] < 1000 || ends[api.ErrExpr] < 1000 {
		t.Error("the lists are too much alike", ends)
	}
}

// TestP1108FromTheLeft: numbers with operators of one level between.
func TestP1108FromTheLeft(t *testing.T) {
	random := seeded(8)
	few := numbers()
	for _, signs := range levels() {
		for range 20000 {
			want, e := num(few[random.IntN(len(few))]), api.OK
			l := []lexer.Token{number(want.N)}
			for range random.IntN(12) {
				s, n := signs[random.IntN(len(signs))], few[random.IntN(len(few))]
				if random.IntN(2) == 0 {
					n = random.IntN(8)
				}
				l = append(l, sign(s), number(n))
				if e == api.OK {
					want, e = expr.Two(s, want, num(n))
				}
			}
			end := len(l)
			if e != api.OK {
				end = 0
			}
			checkAt(t, l, 0, nil, want, end, e)
		}
	}
}

// TestP1108All: each row of three operators of one level.
func TestP1108All(t *testing.T) {
	for _, signs := range levels() {
		for _, s1 := range signs {
			for _, s2 := range signs {
				for _, s3 := range signs {
					v, e := expr.Two(s1, num(1000), num(7))
					if e == api.OK {
						v, e = expr.Two(s2, v, num(3))
					}
					if e == api.OK {
						v, e = expr.Two(s3, v, num(5))
					}
					if e != api.OK {
						t.Fatal(s1, s2, s3, e)
					}
					is(t, strings.Join([]string{"1000", s1, "7", s2, "3", s3, "5"}, " "), v)
				}
			}
		}
	}
}

// TestP1104PlaceOfTheEnd: behind the last token, counted from the list's beginning.
func TestP1104PlaceOfTheEnd(t *testing.T) {
	l := tokens(t, ".quad a - b + 4 , -(7) , c")
	checkAt(t, l, 1, nil, val("a", "b", 4), 6, api.OK)
	checkAt(t, l, 7, nil, num(-7), 11, api.OK)
	checkAt(t, l, 12, nil, val("c", "", 0), 13, api.OK)
	long := slices.Concat(l, slices.Repeat([]lexer.Token{number(1), sign("+")}, 20000), []lexer.Token{number(1)})
	checkAt(t, long, len(l), nil, num(20001), len(long), api.OK)
}
