package forms_test

import (
	"math"
	"strings"
	"testing"

	"gangway/api"
	"gangway/forms"
)

func wild() []int {
	return []int{math.MinInt, -1 << 32, -129, -2, -1, 0, 1, 2, 3, 4, 5, 8, 15, 16, 31, 63, 64, 255, 1 << 31, 1 << 32, math.MaxInt}
}

// checkRefused: with an error every other answer is zero; and each answer is the same again.
func checkRefused(t *testing.T, i api.Inst) {
	e := forms.Check(i)
	text, et := forms.Text(i)
	uses, sets := forms.Uses(i), forms.Sets(i)
	if e != et || e != api.OK && (e != api.ErrForm || text != "" || uses != 0 || sets != 0) || e == api.OK && text == "" {
		t.Fatalf("%+v: %d, %q, %d, %b, %b", i, e, text, et, uses, sets)
	}
	if again, _ := forms.Text(i); again != text || forms.Uses(i) != uses || forms.Sets(i) != sets {
		t.Fatalf("%+v: not the same again", i)
	}
}

// TestP1NothingPanics: each field made wild, one or two at a time, in instructions of all ops.
func TestP1NothingPanics(t *testing.T) {
	for op := -1; op <= api.LastOp+1; op++ {
		for _, n := range wild() {
			checkRefused(t, api.Inst{Op: n, Size: op, Cond: n})
			for _, kind := range wild() {
				for _, size := range []int{n, 0, 1, 4, 8} {
					o := api.Operand{Kind: kind, R: n, Base: n, Index: n, Scale: n, N: n, Mod: n, Name: strings.Repeat("n", int(uint(n)%300))}
					checkRefused(t, api.Inst{Op: op, Size: size, Cond: n, To: o, From: o, Short: true})
					checkRefused(t, api.Inst{Op: op, Size: size, To: o})
					checkRefused(t, api.Inst{Op: op, Size: size, From: o})
					checkRefused(t, api.Inst{Op: op, Size: size, To: api.Operand{Kind: kind, R: n}, From: api.Operand{Kind: kind, N: n}})
					checkRefused(t, api.Inst{Op: op, Size: size, To: api.Operand{Kind: kind, Rip: true, Base: -1, Index: -1, N: n, Name: "x", Mod: n}})
					checkRefused(t, api.Inst{Op: op, Size: size, To: api.Operand{Kind: kind, Base: 1, Index: n, Scale: 1, Name: "x", Mod: n}})
				}
			}
		}
	}
	for _, a := range wild() {
		for _, b := range wild() {
			forms.Register(a, b)
			for _, c := range wild() {
				forms.Name(a, b, c)
			}
		}
	}
}

// TestP1AnswersAreKnown: registers are those of 0 to 15.
func TestP1AnswersAreKnown(t *testing.T) {
	for _, i := range rightInstructions() {
		if u, s := forms.Uses(i), forms.Sets(i); u < 0 || u >= 1<<16 || s < 0 || s >= 1<<16 {
			t.Errorf("%+v: %b, %b", i, u, s)
		}
	}
}
