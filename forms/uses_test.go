package forms_test

import (
	"testing"

	"gangway/api"
	"gangway/forms"
)

// bits: of registers by their numbers.
func bits(list ...int) int {
	n := 0
	for _, r := range list {
		n |= 1 << r
	}
	return n
}

func checkUses(t *testing.T, i api.Inst, uses, sets int) {
	t.Helper()
	if got := forms.Uses(i); got != uses {
		t.Errorf("Uses(%+v): %b; want %b", i, got, uses)
	}
	if got := forms.Sets(i); got != sets {
		t.Errorf("Sets(%+v): %b; want %b", i, got, sets)
	}
}

// TestP305EachOp: of each op with registers that are unlike, and with memory.
func TestP305EachOp(t *testing.T) {
	m := indexed(9, 10, 2, 0)
	for _, size := range []int{4, 8} {
		checkUses(t, two(api.Mov, size, reg(3), reg(6)), bits(3), bits(6))
		checkUses(t, two(api.Mov, size, m, reg(6)), bits(9, 10), bits(6))
		checkUses(t, two(api.Mov, size, imm(1), reg(6)), 0, bits(6))
		checkUses(t, two(api.Lea, size, m, reg(6)), bits(9, 10), bits(6))
		checkUses(t, two(api.Lea, size, rip(0), reg(6)), 0, bits(6))
		for _, op := range []int{api.Movzx, api.Movsx} {
			checkUses(t, two(op, size, reg(3), reg(6)), bits(3), bits(6))
			checkUses(t, two(op, size, m, reg(6)), bits(9, 10), bits(6))
		}
		for _, op := range []int{api.Imul, api.Cmov} {
			checkUses(t, two(op, size, reg(3), reg(6)), bits(3, 6), bits(6))
			checkUses(t, two(op, size, m, reg(6)), bits(9, 10, 6), bits(6))
		}
		checkUses(t, two(api.Xchg, size, reg(3), reg(6)), bits(3, 6), bits(3, 6))
		checkUses(t, two(api.Xchg, size, reg(3), m), bits(3, 9, 10), bits(3))
	}
	checkUses(t, two(api.Mov, 1, reg(3), reg(6)), bits(3, 6), bits(6))
	checkUses(t, two(api.Mov, 1, imm(3), reg(6)), bits(6), bits(6))
	checkUses(t, two(api.Mov, 1, m, reg(6)), bits(6, 9, 10), bits(6))
	for _, size := range []int{1, 4, 8} {
		checkUses(t, two(api.Mov, size, reg(3), m), bits(3, 9, 10), 0)
		checkUses(t, two(api.Mov, size, imm(3), m), bits(9, 10), 0)
		checkChanging(t, size, m)
	}
	for cond := range 16 {
		checkUses(t, withCond(cond, one(api.Setcc, 1, reg(6))), bits(6), bits(6))
		checkUses(t, withCond(cond, one(api.Setcc, 1, m)), bits(9, 10), 0)
		checkUses(t, withCond(cond, one(api.Jcc, 8, to("f"))), 0, 0)
	}
}

// checkChanging: ops that read To, and write it, but Cmp and Test.
func checkChanging(t *testing.T, size int, m api.Operand) {
	t.Helper()
	for _, op := range append(sums(), api.Test) {
		sets := bits(6)
		if op == api.Cmp || op == api.Test {
			sets = 0
		}
		checkUses(t, two(op, size, reg(3), reg(6)), bits(3, 6), sets)
		checkUses(t, two(op, size, imm(3), reg(6)), bits(6), sets)
		checkUses(t, two(op, size, reg(3), m), bits(3, 9, 10), 0)
		checkUses(t, two(op, size, imm(3), m), bits(9, 10), 0)
		if op != api.Test {
			checkUses(t, two(op, size, m, reg(6)), bits(6, 9, 10), sets)
		}
	}
	for _, op := range []int{api.Neg, api.Not, api.Inc, api.Dec} {
		checkUses(t, one(op, size, reg(6)), bits(6), bits(6))
		checkUses(t, one(op, size, m), bits(9, 10), 0)
	}
	for _, op := range shifts() {
		checkUses(t, two(op, size, reg(1), reg(6)), bits(1, 6), bits(6))
		checkUses(t, two(op, size, imm(1), reg(6)), bits(6), bits(6))
		checkUses(t, two(op, size, reg(1), m), bits(1, 9, 10), 0)
	}
}

func TestP305Beside(t *testing.T) {
	m := indexed(9, 10, 2, 0)
	checkUses(t, api.Inst{Op: api.Push, Size: 8, From: reg(3)}, bits(3, 4), bits(4))
	checkUses(t, api.Inst{Op: api.Push, Size: 8, From: m}, bits(4, 9, 10), bits(4))
	checkUses(t, api.Inst{Op: api.Push, Size: 8, From: imm(3)}, bits(4), bits(4))
	checkUses(t, one(api.Pop, 8, reg(3)), bits(4), bits(3, 4))
	checkUses(t, one(api.Pop, 8, m), bits(4, 9, 10), bits(4))
	checkUses(t, one(api.Call, 8, reg(3)), bits(3, 4), bits(4))
	checkUses(t, one(api.Call, 8, m), bits(4, 9, 10), bits(4))
	checkUses(t, one(api.Call, 8, to("f")), bits(4), bits(4))
	checkUses(t, one(api.Jmp, 8, reg(3)), bits(3), 0)
	checkUses(t, one(api.Jmp, 8, m), bits(9, 10), 0)
	checkUses(t, short(one(api.Jmp, 8, to("f"))), 0, 0)
	checkUses(t, api.Inst{Op: api.Ret}, bits(4), bits(4))
	checkUses(t, api.Inst{Op: api.Leave}, bits(5), bits(4, 5))
	checkUses(t, api.Inst{Op: api.Cqo}, bits(0), bits(2))
	checkUses(t, api.Inst{Op: api.Nop}, 0, 0)
	checkUses(t, api.Inst{Op: api.Ud2}, 0, 0)
	checkUses(t, api.Inst{Op: api.Syscall}, bits(0, 2, 6, 7), bits(0, 1, 11))
}

// TestP305Registers: each register by its bit, also in addresses; memory without a base has none.
func TestP305Registers(t *testing.T) {
	for r := range 16 {
		checkUses(t, two(api.Add, 8, reg(r), reg(r)), bits(r), bits(r))
		checkUses(t, two(api.Add, 8, imm(0), based(r, 0)), bits(r), 0)
		checkUses(t, two(api.Mov, 8, reg(r), rip(0)), bits(r), 0)
		checkUses(t, two(api.Mov, 8, fs(0), reg(r)), 0, bits(r))
		if r != 4 {
			checkUses(t, two(api.Add, 8, imm(0), indexed(4, r, 1, 0)), bits(4, r), 0)
		}
	}
}

func TestP305Errors(t *testing.T) {
	for _, i := range []api.Inst{{}, {Op: api.Ret, Size: 8}, {Op: api.Syscall, Cond: 1}, {Op: api.Leave, Short: true}, {Op: 36}, two(api.Add, 2, reg(3), reg(6)), two(api.Add, 8, reg(16), reg(6)), two(api.Add, 8, reg(3), reg(-1)), two(api.Add, 1, imm(256), reg(6)), two(api.Add, 8, reg(3), indexed(0, 4, 1, 0)), {Op: api.Push, Size: 8, To: reg(0)}} {
		checkUses(t, i, 0, 0)
	}
}
