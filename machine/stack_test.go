package machine_test

import (
	"testing"

	"gangway/api"
)

// top: where the stack ends in wild.
const top = stack + 0x800

func TestP703Push(t *testing.T) {
	down := regs{4: top - 8}
	checkSteps(t,
		trial{i: push(reg(0)), has: regs{0: filled}, flags: every(), becomes: down, stores: []cell{{top - 8, 8, filled}}, then: every()},
		trial{i: push(reg(15)), has: regs{15: filled}, becomes: down, stores: []cell{{top - 8, 8, filled}}},
		trial{i: push(reg(4)), becomes: down, stores: []cell{{top - 8, 8, top}}},
		trial{i: push(imm(5)), becomes: down, stores: []cell{{top - 8, 8, 5}}},
		trial{i: push(imm(-2)), becomes: down, stores: []cell{{top - 8, 8, 1<<64 - 2}}},
		trial{i: push(imm(-1 << 31)), becomes: down, stores: []cell{{top - 8, 8, 1<<64 - 1<<31}}},
		trial{i: push(imm(1<<31 - 1)), becomes: down, stores: []cell{{top - 8, 8, 1<<31 - 1}}},
		trial{i: push(based(3, 1)), has: regs{3: data}, becomes: down, stores: []cell{{top - 8, 8, marks(data+1, 8)}}},
		trial{i: push(rip(data - code)), becomes: down, stores: []cell{{top - 8, 8, marks(data+6, 8)}}},
		trial{i: push(fs(8)), becomes: down, stores: []cell{{top - 8, 8, marks(data+0x808, 8)}}},
	)
	// Through rsp, as it was.
	checkSteps(t,
		trial{i: push(based(4, 0)), becomes: down, stores: []cell{{top - 8, 8, marks(top, 8)}}},
		trial{i: push(based(4, -8)), becomes: down},
		trial{i: push(based(4, -4)), becomes: down, stores: []cell{{top - 8, 8, marks(top-4, 8)}}},
	)
}

func TestP703Pop(t *testing.T) {
	up := marks(top, 8)
	checkSteps(t,
		trial{i: one(api.Pop, reg(0)), flags: every(), becomes: regs{0: up, 4: top + 8}, then: every()},
		trial{i: one(api.Pop, reg(15)), becomes: regs{15: up, 4: top + 8}},
		trial{i: one(api.Pop, reg(4)), becomes: regs{4: up}},
		trial{i: one(api.Pop, based(3, 8)), has: regs{3: data}, becomes: regs{4: top + 8}, stores: []cell{{data + 8, 8, up}}},
		trial{i: one(api.Pop, rip(data-code)), becomes: regs{4: top + 8}, stores: []cell{{data + 6, 8, up}}},
		trial{i: one(api.Pop, fs(8)), becomes: regs{4: top + 8}, stores: []cell{{data + 0x808, 8, up}}},
	)
	// Through rsp, as it is then.
	checkSteps(t,
		trial{i: one(api.Pop, based(4, 0)), becomes: regs{4: top + 8}, stores: []cell{{top + 8, 8, up}}},
		trial{i: one(api.Pop, based(4, -8)), becomes: regs{4: top + 8}},
		trial{i: one(api.Pop, based(4, -12)), becomes: regs{4: top + 8}, stores: []cell{{top - 4, 8, up}}},
		trial{i: one(api.Pop, indexed(4, 9, 8, 1)), has: regs{9: 2}, becomes: regs{4: top + 8}, stores: []cell{{top + 25, 8, up}}},
	)
}

// TestP703StackEnds: one that goes round, and one at a page's very end.
func TestP703StackEnds(t *testing.T) {
	s := wild()
	for _, rsp := range []uint64{0, 7, stack + 7, stack + page + 1, fixed + 8, nowhere} {
		s.R[4] = rsp
		fails(t, program(t, s, push(reg(0))), api.ErrFault)
		fails(t, program(t, s, one(api.Call, target(0))), api.ErrFault)
	}
	for _, rsp := range []uint64{1<<64 - 8, 1<<64 - 1, 0, stack + page - 7, stack - 1, blind, nowhere} {
		s.R[4], s.R[5] = rsp, rsp
		fails(t, program(t, s, one(api.Pop, reg(0))), api.ErrFault)
		fails(t, program(t, s, only(api.Ret)), api.ErrFault)
		fails(t, program(t, s, only(api.Leave)), api.ErrFault)
	}
	checkSteps(t,
		trial{i: push(reg(0)), has: regs{0: 1, 4: stack + 8}, becomes: regs{4: stack}, stores: []cell{{stack, 8, 1}}},
		trial{i: push(reg(0)), has: regs{0: 1, 4: stack + page}, becomes: regs{4: stack + page - 8}, stores: []cell{{stack + page - 8, 8, 1}}},
		trial{i: push(reg(0)), has: regs{0: filled, 4: data + page + 3}, becomes: regs{4: data + page - 5}, stores: []cell{{data + page - 5, 8, filled}}},
		trial{i: push(reg(0)), has: regs{0: filled, 4: blind + 8}, becomes: regs{4: blind}, stores: []cell{{blind, 8, filled}}},
		trial{i: one(api.Pop, reg(0)), has: regs{4: stack + page - 8}, becomes: regs{0: marks(stack+page-8, 8), 4: stack + page}},
		trial{i: one(api.Pop, reg(0)), has: regs{4: fixed}, becomes: regs{0: marks(fixed, 8), 4: fixed + 8}},
		trial{i: only(api.Leave), has: regs{5: fixed + page - 8}, becomes: regs{4: fixed + page, 5: marks(fixed+page-8, 8)}},
	)
	// Nothing is popped where it can't be put: rsp stays, too.
	s = wild()
	for _, at := range []uint64{fixed, nowhere, fixed - 4, 1<<64 - 4} {
		s.R[3] = at
		fails(t, program(t, s, one(api.Pop, based(3, 0))), api.ErrFault)
	}
}

func TestP703Leave(t *testing.T) {
	checkSteps(t,
		trial{i: only(api.Leave), has: regs{5: top + 24}, flags: every(), becomes: regs{4: top + 32, 5: marks(top+24, 8)}, then: every()},
		trial{i: only(api.Leave), has: regs{4: nowhere, 5: data + 1}, becomes: regs{4: data + 9, 5: marks(data+1, 8)}},
	)
}

// TestP703Call: by a Target, a register and memory; what is read is read ahead of what is stored, with the old rsp.
func TestP703Call(t *testing.T) {
	down := regs{4: top - 8}
	next := func(i api.Inst) []cell {
		return []cell{{top - 8, 8, code + uint64(len(bytesOf(t, i)))}}
	}
	for _, n := range []int{0, 1, -5, 1 << 20, 1<<31 - 1, -1 << 31} {
		i := one(api.Call, target(n))
		checkSteps(t, trial{i: i, flags: every(), becomes: down, stores: next(i), then: every(), rip: code + 5 + uint64(n)})
	}
	for _, c := range []struct {
		to  api.Operand
		rip uint64
	}{
		{reg(0), filled},
		{reg(4), top},
		{based(3, 8), marks(data+8, 8)},
		{rip(data - code), marks(data+6, 8)},
		{fs(8), marks(data+0x808, 8)},
		{based(4, 0), marks(top, 8)},
		{based(4, 16), marks(top+16, 8)},
		{based(4, -8), marks(top-8, 8)},
		{based(4, -4), marks(top-4, 8)},
	} {
		i := one(api.Call, c.to)
		checkSteps(t, trial{i: i, has: regs{0: filled, 3: data}, becomes: down, stores: next(i), rip: c.rip})
	}
	s := wild()
	s.R[3] = nowhere
	fails(t, program(t, s, one(api.Call, based(3, 0))), api.ErrFault)
}

func TestP703Jmp(t *testing.T) {
	for _, n := range []int{0, 1, -2, 127, -128, 1 << 20, 1<<31 - 1, -1 << 31} {
		i := one(api.Jmp, target(n))
		checkSteps(t, trial{i: i, flags: every(), then: every(), rip: code + 5 + uint64(n)})
		if n >= -128 && n <= 127 {
			i.Short = true
			checkSteps(t, trial{i: i, rip: code + 2 + uint64(n)})
		}
	}
	has := regs{0: filled, 3: data}
	checkSteps(t,
		trial{i: one(api.Jmp, reg(0)), has: has, rip: filled},
		trial{i: one(api.Jmp, reg(4)), has: has, rip: top},
		trial{i: one(api.Jmp, based(3, 8)), has: has, rip: marks(data+8, 8)},
		trial{i: one(api.Jmp, based(4, 8)), has: has, rip: marks(top+8, 8)},
		trial{i: one(api.Jmp, rip(data-code)), has: has, rip: marks(data+6, 8)},
		trial{i: one(api.Jmp, fs(8)), has: has, rip: marks(data+0x808, 8)},
	)
	s := wild()
	s.R[3] = blind
	fails(t, program(t, s, one(api.Jmp, based(3, 0))), api.ErrFault)
}

// TestP703Jcc: both ways, in both lengths, and backwards below 0.
func TestP703Jcc(t *testing.T) {
	z := api.Flags{Z: true}
	long, short := conditional(api.Jcc, 8, 4, target(-100), api.Operand{}), conditional(api.Jcc, 8, 4, target(100), api.Operand{})
	short.Short = true
	far := conditional(api.Jcc, 8, 5, target(-1<<31), api.Operand{})
	checkSteps(t,
		trial{i: long, flags: z, then: z, rip: code + 6 - 100},
		trial{i: long, rip: code + 6},
		trial{i: short, flags: z, then: z, rip: code + 2 + 100},
		trial{i: short, rip: code + 2},
		trial{i: far, rip: 1<<64 + code + 6 - 1<<31},
		trial{i: far, flags: z, then: z, rip: code + 6},
	)
}

func TestP703Ret(t *testing.T) {
	checkSteps(t,
		trial{i: only(api.Ret), flags: every(), becomes: regs{4: top + 8}, then: every(), rip: marks(top, 8)},
		trial{i: only(api.Ret), has: regs{4: data}, cells: []cell{{data, 8, 1<<64 - 1}}, becomes: regs{4: data + 8}, rip: 1<<64 - 1},
	)
}

// TestP703Calls: a function that is called, calls itself and comes back, with a frame of its own.
func TestP703Calls(t *testing.T) {
	s := wild()
	s.R[0], s.R[7] = 0, 10
	// The sum of 1 to rdi.
	body := []api.Inst{
		push(reg(5)), inst(api.Mov, 8, reg(5), reg(4)), push(reg(7)),
		inst(api.Test, 8, reg(7), reg(7)), conditional(api.Jcc, 8, 4, target(12), api.Operand{}),
		inst(api.Add, 8, reg(0), reg(7)), inst(api.Sub, 8, reg(7), imm(1)), one(api.Call, target(0)),
		inst(api.Mov, 8, reg(7), based(5, -8)), only(api.Leave), only(api.Ret),
	}
	main := []api.Inst{one(api.Call, target(1)), only(api.Ud2)}
	main[0].To.N = len(bytesOf(t, main[1]))
	body[7].To.N = -len(bytesOf(t, body[:8]...))
	x := program(t, s, append(main, body...)...)
	checkRun(t, x, 1000, 1+10*11+8, api.ErrForm)
	want := s
	want.R[0], want.Rip = 55, code+5
	want.Flags = fZP
	checkState(t, x, want)
}
