package expr_test

import (
	"math"
	"math/rand/v2"
	"slices"
	"strconv"
	"strings"
	"testing"

	"gangway/api"
	"gangway/expr"
	"gangway/lexer"
)

func seeded(n uint64) *rand.Rand { return rand.New(rand.NewPCG(11, n)) }

// wildTokens: mostly such as go on with an expression; now and then any other.
func wildTokens(random *rand.Rand, n int) []lexer.Token {
	names := []string{"a", "b", "k", "j", "i", "h"}
	signs := append(twos(), "+", "-", "+", "-", "-")
	var l []lexer.Token
	awaited := true
	for range n {
		switch kind := random.IntN(16); {
		case kind == 0:
			l = append(l, alphabet()[random.IntN(len(alphabet()))])
		case awaited && kind < 4:
			l = append(l, sign([]string{"-", "+", "~"}[random.IntN(3)]))
		case awaited && kind < 7:
			l = append(l, sign("("))
		case awaited && kind < 9:
			l = append(l, name(names[random.IntN(len(names))]))
			awaited = false
		case awaited:
			l = append(l, number(random.IntN(12)-2))
			awaited = false
		case kind < 5:
			l = append(l, sign(")"))
		default:
			l = append(l, sign(signs[random.IntN(len(signs))]))
			awaited = true
		}
	}
	return l
}

// TestP1101NothingPanics: tokens, places, names and numbers of all sorts; with an error nothing else is answered.
func TestP1101NothingPanics(t *testing.T) {
	random := seeded(1)
	texts := []string{"", "+", "-", "~", "(", ")", "*", "/", "<<", ">>", "&", "|", "^", "a", "\x00", "\xff", strings.Repeat("z", 1000), ",", "<"}
	places := []int{math.MinInt, -1, 0, 1, 2, 5, math.MaxInt}
	few := numbers()
	for range 60000 {
		var l []lexer.Token
		var known []expr.Def
		for range random.IntN(8) {
			l = append(l, lexer.Token{Kind: random.IntN(9) - 1, Line: few[random.IntN(len(few))], N: few[random.IntN(len(few))], Text: texts[random.IntN(len(texts))]})
			known = append(known, def(texts[random.IntN(len(texts))], val(texts[random.IntN(len(texts))], texts[random.IntN(len(texts))], few[random.IntN(len(few))])))
		}
		for _, at := range places {
			checkModel(t, l, at, known)
		}
	}
	for _, s := range texts {
		for _, a := range values(few...) {
			b := val(texts[random.IntN(len(texts))], texts[random.IntN(len(texts))], few[random.IntN(len(few))])
			v, e := modelTwo(s, a, b)
			checkTwo(t, s, a, b, v, e)
			checkText(t, b, modelText(b))
		}
	}
}

// TestP1101MuchEnds: lists far longer than a source has, and many names of many Defs.
func TestP1101MuchEnds(t *testing.T) {
	const many = 1 << 20
	nothing := func(l []lexer.Token, e api.Errno) {
		t.Helper()
		checkAt(t, l, 0, nil, expr.Value{}, 0, e)
	}
	for _, s := range []string{"-", "+", "~", "("} {
		nothing(slices.Repeat([]lexer.Token{sign(s)}, many), api.ErrSize)
	}
	nothing(slices.Repeat([]lexer.Token{sign(")")}, many), api.ErrExpr)
	nothing(slices.Repeat([]lexer.Token{number(1), sign("+")}, many), api.ErrExpr)
	nothing(make([]lexer.Token, many), api.ErrExpr)

	const names = 1 << 17
	var l []lexer.Token
	var known []expr.Def
	for k := range names {
		known = append(known, def("n"+strconv.Itoa(k), num(k)))
		l = append(l, name("n"+strconv.Itoa(names-1-k)), sign("+"))
	}
	l = append(l, name("n0"))
	checkAt(t, l, 0, known, num(names*(names-1)/2), len(l), api.OK)

	long := strings.Repeat("n", 1<<24)
	checkText(t, val(long, "", 1), long+"+1")
	checkAdd(t, val(long, "", 1), val("", long, 2), num(3), api.OK)
}

// TestP1101NilAndEmpty: they mean the same.
func TestP1101NilAndEmpty(t *testing.T) {
	for _, l := range [][]lexer.Token{nil, {}} {
		checkAt(t, l, 0, nil, expr.Value{}, 0, api.ErrExpr)
		checkAt(t, l, 1, nil, expr.Value{}, 0, api.ErrRange)
	}
	for _, known := range [][]expr.Def{nil, {}} {
		checkAt(t, []lexer.Token{name("k")}, 0, known, val("k", "", 0), 1, api.OK)
	}
}

// TestP1101ArgumentsStay: neither lists that are handed in nor the room behind them are changed, nor is that room read.
func TestP1101ArgumentsStay(t *testing.T) {
	l := tokens(t, "(k + 1) * -2 + j + j - j - j + k + k + k + k + foo + 5")
	known := []expr.Def{def("k", num(3)), def("j", num(4)), def("foo", num(5)), def("foo", num(6))}
	tokensBefore, knownBefore := slices.Clone(l), slices.Clone(known)
	checkAt(t, l, 0, known, num(14), len(l)-1, api.OK)
	foo := slices.Index(l, lexer.Token{Kind: lexer.Name, Line: 1, Text: "foo"})
	checkAt(t, l[:foo+1], 0, known[:2], val("foo", "", 4), foo+1, api.OK)
	checkAt(t, l[:foo], 0, known, expr.Value{}, 0, api.ErrExpr)
	checkAt(t, l[:2], 0, known, expr.Value{}, 0, api.ErrExpr)
	checkAt(t, l[:2], 1, known[:0], val("k", "", 0), 2, api.OK)
	if !slices.Equal(l, tokensBefore) || !slices.Equal(known, knownBefore) {
		t.Error(l, known)
	}
}

// TestP1101TheSameAgain: what is answered hangs on nothing else, many times and side by side.
func TestP1101TheSameAgain(t *testing.T) {
	random := seeded(2)
	known := []expr.Def{def("k", num(3)), def("j", val("a", "", 1)), def("k", num(4))}
	var lists [][]lexer.Token
	for range 300 {
		lists = append(lists, wildTokens(random, 20))
	}
	done := make(chan bool)
	for range 8 {
		go func() {
			same := true
			for _, l := range lists {
				want, wantEnd, wantE := modelEval(l, 0, known)
				v, end, e := expr.Eval(l, 0, known)
				same = same && v == want && end == wantEnd && e == wantE && expr.Text(v) == modelText(want)
				for _, s := range twos() {
					want, wantE := modelTwo(s, v, num(3))
					v, e := expr.Two(s, v, num(3))
					same = same && v == want && e == wantE
				}
			}
			done <- same
		}()
	}
	for range 8 {
		if !<-done {
			t.Error("not the same again")
		}
	}
}
