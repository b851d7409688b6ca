package expr_test

import (
	"fmt"
	"math"
	"strings"
	"testing"

	"gangway/api"
	"gangway/expr"
	"gangway/lexer"
)

func num(n int) expr.Value { return expr.Value{N: n} }

func val(plus, minus string, n int) expr.Value { return expr.Value{Plus: plus, Minus: minus, N: n} }

func def(name string, v expr.Value) expr.Def { return expr.Def{Name: name, V: v} }

func sign(text string) lexer.Token { return lexer.Token{Kind: lexer.Sign, Text: text} }

func name(text string) lexer.Token { return lexer.Token{Kind: lexer.Name, Text: text} }

func number(n int) lexer.Token { return lexer.Token{Kind: lexer.Number, N: n} }

// twos: the signs of all operators of two.
func twos() []string { return []string{"*", "/", "<<", ">>", "&", "|", "^", "+", "-"} }

// levels: the same, the tightest first.
func levels() [][]string {
	return [][]string{{"*", "/", "<<", ">>"}, {"&", "|", "^"}, {"+", "-"}}
}

// numbers: small ones, and those at the edges.
func numbers() []int {
	return []int{math.MinInt, math.MinInt + 1, -1 << 32, -65, -64, -63, -3, -2, -1, 0, 1, 2, 3, 5, 31, 32, 62, 63, 64, 65, 1 << 31, 1<<32 + 1, 1 << 62, math.MaxInt - 1, math.MaxInt}
}

// values: with each choice of three names and none, these numbers.
func values(numbers ...int) []expr.Value {
	var l []expr.Value
	for _, plus := range []string{"", "a", "b", "c"} {
		for _, minus := range []string{"", "a", "b", "c"} {
			for _, n := range numbers {
				l = append(l, val(plus, minus, n))
			}
		}
	}
	return l
}

// tokens: of a text that has no others.
func tokens(t *testing.T, text string) []lexer.Token {
	t.Helper()
	l, _, e := lexer.All(text)
	if e != api.OK {
		t.Fatalf("All(%s): %d", short(text), e)
	}
	return l
}

func checkAt(t *testing.T, l []lexer.Token, at int, known []expr.Def, want expr.Value, wantEnd int, wantE api.Errno) {
	t.Helper()
	v, end, e := expr.Eval(l, at, known)
	if v != want || end != wantEnd || e != wantE {
		t.Fatalf("Eval(%s, %d, %s): %#v, %d, %d; want %#v, %d, %d", short(spelled(l)), at, short(known), v, end, e, want, wantEnd, wantE)
	}
}

// checkModel: at a place, as the model has it.
func checkModel(t *testing.T, l []lexer.Token, at int, known []expr.Def) {
	t.Helper()
	v, end, e := modelEval(l, at, known)
	checkAt(t, l, at, known, v, end, e)
}

// is: a line that is an expression as a whole.
func is(t *testing.T, text string, want expr.Value, known ...expr.Def) {
	t.Helper()
	l := tokens(t, text)
	checkAt(t, l, 0, known, want, len(l)-1, api.OK)
}

// endsAt: a line that begins with an expression of so many tokens.
func endsAt(t *testing.T, text string, want expr.Value, end int) {
	t.Helper()
	checkAt(t, tokens(t, text), 0, nil, want, end, api.OK)
}

func refused(t *testing.T, text string, e api.Errno, known ...expr.Def) {
	t.Helper()
	checkAt(t, tokens(t, text), 0, known, expr.Value{}, 0, e)
}

func checkTwo(t *testing.T, sign string, a, b, want expr.Value, wantE api.Errno) {
	t.Helper()
	if v, e := expr.Two(sign, a, b); v != want || e != wantE {
		t.Fatalf("Two(%q, %#v, %#v): %#v, %d; want %#v, %d", sign, a, b, v, e, want, wantE)
	}
}

func checkAdd(t *testing.T, a, b, want expr.Value, wantE api.Errno) {
	t.Helper()
	if v, e := expr.Add(a, b); v != want || e != wantE {
		t.Fatalf("Add(%#v, %#v): %#v, %d; want %#v, %d", a, b, v, e, want, wantE)
	}
}

func checkSub(t *testing.T, a, b, want expr.Value, wantE api.Errno) {
	t.Helper()
	if v, e := expr.Sub(a, b); v != want || e != wantE {
		t.Fatalf("Sub(%#v, %#v): %#v, %d; want %#v, %d", a, b, v, e, want, wantE)
	}
}

func checkText(t *testing.T, v expr.Value, want string) {
	t.Helper()
	if s := expr.Text(v); s != want {
		t.Fatalf("Text(%#v): %q; want %q", v, s, want)
	}
}

// brackets: so many around a text.
func brackets(n int, text string) string {
	return strings.Repeat("(", n) + text + strings.Repeat(")", n)
}

// spelled: tokens, in short, whatever they are.
func spelled(l []lexer.Token) string {
	var b strings.Builder
	for _, t := range l[:min(len(l), 100)] {
		switch t.Kind {
		case lexer.Number:
			fmt.Fprintf(&b, "%d ", t.N)
		case lexer.Name, lexer.Sign:
			fmt.Fprintf(&b, "%s ", t.Text)
		default:
			fmt.Fprintf(&b, "<%d %q> ", t.Kind, t.Text)
		}
	}
	return b.String()
}

// short: what fits into a line of it.
func short(x any) string {
	s := fmt.Sprintf("%v", x)
	if len(s) > 400 {
		return s[:400] + ".."
	}
	return s
}
