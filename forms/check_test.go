package forms_test

import (
	"math"
	"slices"
	"testing"

	"gangway/api"
	"gangway/forms"
)

// checks: Check of an instruction, as the document asks for it.
func checks(t *testing.T, i api.Inst, right bool) {
	t.Helper()
	want := api.ErrForm
	if right {
		want = api.OK
	}
	if e := forms.Check(i); e != want {
		t.Fatalf("Check(%+v): %d; want %d", i, e, want)
	}
}

// TestP302EachLine: all ops, sizes, samples, conditions, short or not, held against the document's table.
func TestP302EachLine(t *testing.T) {
	table, samples := lines(), append(rightSamples(), wrongSamples()...)
	for op := -1; op <= api.LastOp+1; op++ {
		var ofOp []line
		for _, l := range table {
			if slices.Contains(l.ops, op) {
				ofOp = append(ofOp, l)
			}
		}
		for _, size := range []int{-8, 0, 1, 2, 4, 5, 8, 12, 16} {
			for _, to := range samples {
				for _, from := range samples {
					checkWays(t, ofOp, api.Inst{Op: op, Size: size, To: to.o, From: from.o}, to, from)
				}
			}
		}
	}
}

// checkWays: with each Cond about the ends, short and not.
func checkWays(t *testing.T, table []line, i api.Inst, to, from sample) {
	for _, cond := range []int{-1, 0, 1, 15, 16} {
		for _, short := range []bool{false, true} {
			i.Cond, i.Short = cond, short
			checks(t, i, isInstruction(table, i, to, from))
		}
	}
}

func TestP302Ops(t *testing.T) {
	for _, op := range []int{math.MinInt, -36, -1, 0, 36, 37, 64, 256 + api.Ret, 1<<32 + api.Ret, math.MaxInt} {
		checks(t, api.Inst{Op: op}, false)
		checks(t, api.Inst{Op: op, Size: 8, To: reg(0), From: reg(1)}, false)
	}
}

func TestP302Sizes(t *testing.T) {
	for _, size := range []int{math.MinInt, -8, -4, -1, 0, 2, 3, 5, 6, 7, 9, 12, 13, 16, 32, 64, 256 + 8, 1<<32 + 8, math.MaxInt} {
		checks(t, api.Inst{Op: api.Mov, Size: size, To: reg(0), From: reg(1)}, false)
		checks(t, api.Inst{Op: api.Call, Size: size, To: to("f")}, false)
		checks(t, api.Inst{Op: api.Setcc, Size: size, To: reg(0)}, false)
		checks(t, api.Inst{Op: api.Ret, Size: size}, size == 0)
	}
	for _, op := range []int{api.Lea, api.Imul, api.Cmov, api.Movzx, api.Movsx, api.Xchg} {
		from := reg(1)
		if op == api.Lea {
			from = rip(0)
		}
		checks(t, api.Inst{Op: op, Size: 1, To: reg(0), From: from}, false)
		checks(t, api.Inst{Op: op, Size: 4, To: reg(0), From: from}, true)
		checks(t, api.Inst{Op: op, Size: 8, To: reg(0), From: from}, true)
	}
}

// TestP302Fitting: an Imm at both ends of what fits, and one beyond; a register takes any of 8 bytes by Mov alone.
func TestP302Fitting(t *testing.T) {
	for _, c := range []struct{ size, low, high int }{{1, -128, 255}, {4, -2147483648, 4294967295}, {8, -2147483648, 2147483647}} {
		for _, op := range append(sums(), api.Mov, api.Test) {
			for _, place := range []api.Operand{reg(2), based(5, 8), rip(0), fs(0)} {
				for _, n := range []int{c.low, c.high, 0, -1, 1} {
					checks(t, api.Inst{Op: op, Size: c.size, To: place, From: imm(n)}, true)
				}
				for _, n := range []int{c.low - 1, c.high + 1, math.MinInt, math.MaxInt} {
					any := op == api.Mov && c.size == 8 && place.Kind == api.Reg
					checks(t, api.Inst{Op: op, Size: c.size, To: place, From: imm(n)}, any)
				}
			}
		}
	}
}

func TestP302Counts(t *testing.T) {
	for _, op := range shifts() {
		for _, size := range []int{1, 4, 8} {
			for _, n := range []int{math.MinInt, -1, 0, 1, 31, 32, 63, 64, 255, math.MaxInt} {
				right := n >= 0 && n <= 31 || size == 8 && (n == 32 || n == 63)
				checks(t, api.Inst{Op: op, Size: size, To: reg(0), From: imm(n)}, right)
				checks(t, api.Inst{Op: op, Size: size, To: based(0, 0), From: imm(n)}, right)
			}
			for r := -1; r <= 16; r++ {
				checks(t, api.Inst{Op: op, Size: size, To: reg(0), From: reg(r)}, r == 1)
			}
		}
	}
}

func TestP302Pushed(t *testing.T) {
	for _, n := range []int{least, most, 0} {
		checks(t, api.Inst{Op: api.Push, Size: 8, From: imm(n)}, true)
		checks(t, api.Inst{Op: api.Push, Size: 8, To: imm(n)}, false)
	}
	checks(t, api.Inst{Op: api.Push, Size: 8, From: imm(least - 1)}, false)
	checks(t, api.Inst{Op: api.Push, Size: 8, From: imm(most + 1)}, false)
	checks(t, api.Inst{Op: api.Push, Size: 8, From: reg(3)}, true)
	checks(t, api.Inst{Op: api.Push, Size: 8, To: reg(3)}, false)
	checks(t, api.Inst{Op: api.Pop, Size: 8, To: reg(3)}, true)
	checks(t, api.Inst{Op: api.Pop, Size: 8, From: reg(3)}, false)
	checks(t, api.Inst{Op: api.Pop, Size: 8, To: imm(3)}, false)
}

func TestP302Short(t *testing.T) {
	for _, op := range []int{api.Jmp, api.Jcc} {
		for _, n := range []int{-128, -1, 0, 127} {
			checks(t, api.Inst{Op: op, Size: 8, To: target(n), Short: true}, true)
		}
		for _, n := range []int{math.MinInt, least, -129, 128, most, math.MaxInt} {
			checks(t, api.Inst{Op: op, Size: 8, To: target(n), Short: true}, false)
		}
		checks(t, api.Inst{Op: op, Size: 8, To: to("f"), Short: true}, true)
		checks(t, api.Inst{Op: op, Size: 8, To: named(target(0), "f", api.Plt), Short: true}, true)
	}
	checks(t, api.Inst{Op: api.Jmp, Size: 8, To: reg(0), Short: true}, false)
	checks(t, api.Inst{Op: api.Jmp, Size: 8, To: based(0, 0), Short: true}, false)
	checks(t, api.Inst{Op: api.Call, Size: 8, To: target(0), Short: true}, false)
	checks(t, api.Inst{Op: api.Call, Size: 8, To: to("f"), Short: true}, false)
	checks(t, api.Inst{Op: api.Ret, Short: true}, false)
	checks(t, api.Inst{Op: api.Mov, Size: 8, To: reg(0), From: reg(0), Short: true}, false)
	checks(t, api.Inst{Op: api.Add, Size: 8, To: reg(0), From: imm(1), Short: true}, false)
}

func TestP302Conds(t *testing.T) {
	wild := []int{math.MinInt, -16, -1, 16, 17, 256, 1 << 32, math.MaxInt}
	for _, i := range []api.Inst{{Op: api.Jcc, Size: 8, To: to("f")}, {Op: api.Setcc, Size: 1, To: reg(0)}, {Op: api.Cmov, Size: 4, To: reg(0), From: reg(1)}} {
		for i.Cond = 0; i.Cond <= 15; i.Cond++ {
			checks(t, i, true)
		}
		for _, i.Cond = range wild {
			checks(t, i, false)
		}
	}
	for _, i := range []api.Inst{{Op: api.Jmp, Size: 8, To: to("f")}, {Op: api.Ret}, {Op: api.Mov, Size: 4, To: reg(0), From: reg(1)}, {Op: api.Call, Size: 8, To: to("f")}} {
		for _, i.Cond = range append(wild, 1, 15) {
			checks(t, i, false)
		}
		i.Cond = 0
		checks(t, i, true)
	}
}

// TestP302NotBoth: no instruction has two operands in memory, and none a number or a target as a place.
func TestP302NotBoth(t *testing.T) {
	for op := 1; op <= api.LastOp; op++ {
		for _, size := range []int{0, 1, 4, 8} {
			checks(t, api.Inst{Op: op, Size: size, To: based(0, 0), From: based(1, 0)}, false)
			checks(t, api.Inst{Op: op, Size: size, To: imm(0), From: reg(1)}, false)
			checks(t, api.Inst{Op: op, Size: size, To: imm(0)}, false)
			checks(t, api.Inst{Op: op, Size: size, To: target(0), From: reg(1)}, false)
			checks(t, api.Inst{Op: op, Size: size, To: reg(1), From: target(0)}, false)
			checks(t, api.Inst{Op: op, Size: size, From: target(0)}, false)
		}
	}
}

func TestP302Examples(t *testing.T) {
	checks(t, api.Inst{Op: api.Mov, Size: 8, To: reg(3), From: reg(0)}, true)
	checks(t, api.Inst{Op: api.Mov, Size: 2, To: reg(3), From: reg(0)}, false)
	checks(t, api.Inst{Op: api.Mov, Size: 1, To: reg(0), From: imm(255)}, true)
	checks(t, api.Inst{Op: api.Mov, Size: 1, To: reg(0), From: imm(256)}, false)
	checks(t, api.Inst{Op: api.Lea, Size: 8, To: reg(0), From: named(rip(0), "f", api.Plain)}, true)
	checks(t, api.Inst{Op: api.Lea, Size: 8, To: reg(0), From: fs(0)}, false)
	checks(t, api.Inst{Op: api.Test, Size: 8, To: based(0, 0), From: reg(0)}, true)
	checks(t, api.Inst{Op: api.Test, Size: 8, To: reg(0), From: based(0, 0)}, false)
	checks(t, api.Inst{Op: api.Xchg, Size: 8, To: reg(0), From: based(0, 0)}, false)
	checks(t, api.Inst{}, false)
}
