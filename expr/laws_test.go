package expr_test

import (
	"math"
	"slices"
	"strings"
	"testing"

	"gangway/api"
	"gangway/expr"
	"gangway/lexer"
)

// TestP1106ThereAndBack: what Text tells is read as the value, with one End behind it.
func TestP1106ThereAndBack(t *testing.T) {
	longest := strings.Repeat("n", api.MaxName)
	for _, plus := range []string{"", "a", "B", ".", "_", ".L1", "x.y_9", longest} {
		for _, minus := range []string{"", "a", "c", "..", "_0", longest} {
			if plus == minus && plus != "" {
				continue
			}
			for _, n := range numbers() {
				is(t, expr.Text(val(plus, minus, n)), val(plus, minus, n))
			}
		}
	}
}

// TestP1106OneName: Text tells both, which Eval lets fall away.
func TestP1106OneName(t *testing.T) {
	for _, n := range numbers() {
		is(t, expr.Text(val("a", "a", n)), num(n))
	}
}

func TestP1107AddCommutes(t *testing.T) {
	l := values(0, 1, -3, math.MinInt, math.MaxInt)
	for _, a := range l {
		for _, b := range l {
			v, e := expr.Add(a, b)
			checkAdd(t, b, a, v, e)
		}
	}
}

// TestP1107SubOfAdd: what was added is taken off again.
func TestP1107SubOfAdd(t *testing.T) {
	l := values(0, 1, -3, math.MinInt, math.MaxInt)
	some := 0
	for _, a := range l {
		for _, b := range l {
			both, e := expr.Add(a, b)
			if e != api.OK {
				continue
			}
			v, e := expr.Sub(both, b)
			if e != api.OK {
				continue
			}
			some++
			if v != modelReduce(a) {
				t.Fatalf("%#v, %#v: %#v", a, b, v)
			}
		}
	}
	if some < len(l)*len(l)/4 {
		t.Error("few of them:", some)
	}
}

// TestP1107Brackets: around a whole expression they change nothing but where it ends.
func TestP1107Brackets(t *testing.T) {
	random := seeded(7)
	some := 0
	for range 30000 {
		l := wildTokens(random, 1+random.IntN(20))
		v, end, e := expr.Eval(l, 0, nil)
		if e != api.OK {
			continue
		}
		some++
		around := slices.Concat([]lexer.Token{sign("(")}, l[:end], []lexer.Token{sign(")")}, l[end:])
		checkAt(t, around[:end+2], 0, nil, v, end+2, api.OK)
		checkAt(t, around, 1, nil, v, end+1, api.OK)
		twice := slices.Concat([]lexer.Token{sign("(")}, around[:end+2], []lexer.Token{sign(")"), sign(",")})
		checkAt(t, twice, 0, nil, v, end+4, api.OK)
	}
	if some < 1000 {
		t.Error("few of them:", some)
	}
}

func TestP1107Blanks(t *testing.T) {
	for _, text := range []string{"1 + 2 * 3", "( 1 + 2 ) * 3", "foo + 8 - 3", "- - 5", "~ foo", "1 << 4 | 1", "- ( a - b ) + ~ 0x10", "1 / 0", "2 +"} {
		want, end, e := expr.Eval(tokens(t, text), 0, nil)
		for _, gap := range []string{"", "  ", "\t", " \t \t"} {
			spaced := gap + strings.ReplaceAll(text, " ", gap) + gap + "# remark"
			checkAt(t, tokens(t, spaced), 0, nil, want, end, e)
		}
	}
}
