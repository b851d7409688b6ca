package machine_test

import (
	"math"
	"testing"

	"gangway/api"
	"gangway/machine"
	"gangway/memory"
)

// ending: five steps that write a byte and end with the code 7.
func ending(t *testing.T) *machine.Machine {
	t.Helper()
	return program(t, asked(0, 1, data, 1), inst(api.Mov, 4, reg(0), imm(1)), only(api.Syscall), inst(api.Mov, 4, reg(0), imm(60)), inst(api.Mov, 4, reg(7), imm(7)), only(api.Syscall), only(api.Ud2))
}

func TestP704Ends(t *testing.T) {
	for _, steps := range []int{5, 6, 7, 100, api.MaxSteps + 1, 1 << 40, math.MaxInt - 1, math.MaxInt} {
		x := ending(t)
		checkRun(t, x, steps, 5, api.OK)
		checkExit(t, x, 7, true)
		checkOut(t, x, string(mark(data)))
	}
}

func TestP704Budget(t *testing.T) {
	for steps := range 5 {
		x := ending(t)
		checkRun(t, x, steps, steps, api.ErrBudget)
		checkExit(t, x, 0, false)
		checkRun(t, x, 0, 0, api.ErrBudget)
		checkRun(t, x, 100, 5-steps, api.OK)
		checkExit(t, x, 7, true)
	}
	loop := one(api.Jmp, target(-2))
	loop.Short = true
	x := program(t, wild(), loop)
	for _, steps := range []int{0, 1, 10, 50000} {
		checkRun(t, x, steps, steps, api.ErrBudget)
		checkState(t, x, wild())
	}
}

func TestP704Nothing(t *testing.T) {
	// Of 0 steps none is done, whatever would come.
	for _, at := range []uint64{code, nowhere} {
		s := wild()
		s.Rip = at
		x := made(t, world(t), s)
		unchanged(t, x, func() { checkRun(t, x, 0, 0, api.ErrBudget) })
	}
}

func TestP704Below(t *testing.T) {
	x := ending(t)
	below := func() {
		for _, steps := range []int{-1, -2, -1 << 32, math.MinInt + 1, math.MinInt} {
			checkRun(t, x, steps, 0, api.ErrArg)
		}
	}
	unchanged(t, x, below)
	checkRun(t, x, 5, 5, api.OK)
	unchanged(t, x, below)
}

// TestP704Ended: of a Machine that had ended.
func TestP704Ended(t *testing.T) {
	x := ending(t)
	checkRun(t, x, 5, 5, api.OK)
	unchanged(t, x, func() {
		for _, steps := range []int{0, 1, 5, math.MaxInt} {
			checkRun(t, x, steps, 0, api.OK)
		}
		check(t, x.Step(), api.ErrNone)
	})
}

// TestP704Errors: how many were done, and the error of the one that could not be; what was done stays.
func TestP704Errors(t *testing.T) {
	add := inst(api.Add, 8, reg(0), imm(1))
	far := one(api.Jmp, target(nowhere-code))
	for _, c := range []struct {
		i api.Inst
		n int
		e api.Errno
	}{{only(api.Ud2), 3, api.ErrForm}, {inst(api.Mov, 8, reg(0), based(3, 0)), 3, api.ErrFault}, {inst(api.Mov, 8, based(3, 0), reg(0)), 3, api.ErrFault}, {far, 4, api.ErrFault}} {
		s := wild()
		s.R[0], s.R[3] = 0, nowhere
		for _, steps := range []int{c.n + 1, c.n + 2, 1000, math.MaxInt} {
			x := program(t, s, add, add, add, c.i)
			checkRun(t, x, steps, c.n, c.e)
			if x.State().R[0] != 3 {
				t.Error(shown(x.State()))
			}
			fails(t, x, c.e)
			checkRun(t, x, 0, 0, api.ErrBudget)
		}
		x := program(t, s, add, add, add, c.i)
		checkRun(t, x, c.n, c.n, api.ErrBudget)
	}
}

// TestP704GoesOn: where an error came up it goes on, once what was in its way is gone.
func TestP704GoesOn(t *testing.T) {
	s := wild()
	s.R[3] = nowhere
	x := program(t, s, inst(api.Mov, 8, based(3, 0), reg(0)), only(api.Nop), only(api.Ud2))
	checkRun(t, x, 100, 0, api.ErrFault)
	check(t, x.Memory().Map(nowhere, 1, rw), api.OK)
	checkRun(t, x, 100, 2, api.ErrForm)
	checkLoad(t, x.Memory(), nowhere, 8, s.R[0])
}

// programs: some that write, end, fail, loop, call and change their own code.
func programs(t *testing.T) []*machine.Machine {
	t.Helper()
	list := []*machine.Machine{ending(t)}
	s := asked(1, 1, data, 1)
	loop := one(api.Jmp, target(-len(bytesOf(t, inst(api.Add, 8, reg(6), reg(0)), only(api.Syscall)))-5))
	list = append(list, program(t, s, inst(api.Add, 8, reg(6), reg(0)), only(api.Syscall), loop))
	list = append(list, program(t, wild(), push(reg(0)), push(reg(3)), one(api.Pop, reg(0)), one(api.Pop, reg(3)), one(api.Call, target(-9-5+5)), only(api.Ud2)))
	list = append(list, program(t, wild(), push(reg(0)), only(api.Nop), inst(api.Mov, 8, reg(0), based(3, 0))))
	x := program(t, wild(), inst(api.Mov, 1, rip(0), imm(0x58)), only(api.Nop), only(api.Nop), only(api.Ret))
	check(t, x.Memory().Protect(code, 2, rw|memory.X), api.OK)
	list = append(list, x)
	for start := range 20 {
		list = append(list, thrown(t, dice(start)))
	}
	return list
}

// copyOf: another one, with the same state and a memory that is the same.
func copyOf(t *testing.T, x *machine.Machine) *machine.Machine {
	t.Helper()
	return made(t, x.Memory().Copy(), x.State())
}

// TestP706InPieces: Run of a and then of b is Run of both together.
func TestP706InPieces(t *testing.T) {
	for k, x := range programs(t) {
		for a := range 8 {
			for _, b := range []int{0, 1, 2, 3, 7, 50} {
				parts, both := copyOf(t, x), copyOf(t, x)
				n, e := parts.Run(a)
				m, f := parts.Run(b)
				// Of 0 steps behind an error nothing is left to fail.
				if e == api.OK || e == api.ErrBudget {
					e = f
				}
				checkRun(t, both, a+b, n+m, e)
				if !alike(parts, both) {
					t.Errorf("program %d: Run of %d and of %d is not Run of both", k, a, b)
				}
			}
		}
	}
	x := ending(t)
	checkRun(t, x, 3, 3, api.ErrBudget)
	checkRun(t, x, math.MaxInt-3, 2, api.OK)
}

// TestP707Alike: two of one state with memories that are the same, step by step.
func TestP707Alike(t *testing.T) {
	for k, x := range programs(t) {
		a, b := copyOf(t, x), copyOf(t, x)
		for n := range 60 {
			if e, f := a.Step(), b.Step(); e != f || !alike(a, b) {
				t.Fatalf("program %d, step %d: %d, %d", k, n, e, f)
			}
		}
	}
}
