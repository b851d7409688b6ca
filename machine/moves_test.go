package machine_test

import (
	"testing"

	"gangway/api"
	"gangway/machine"
)

// TestP703Mov: each way and size; a register of 8 bytes becomes all of it, of 4 its others become 0, of 1 they stay.
func TestP703Mov(t *testing.T) {
	const a, b = 0x1122334455667788, 0x99aabbccddeeff00
	has := regs{0: a, 3: b}
	at := regs{0: a, 3: data + 8}
	place := []cell{{data + 8, 8, b}}
	checkSteps(t,
		trial{i: inst(api.Mov, 8, reg(0), reg(3)), has: has, becomes: regs{0: b}},
		trial{i: inst(api.Mov, 4, reg(0), reg(3)), has: has, becomes: regs{0: 0xddeeff00}},
		trial{i: inst(api.Mov, 1, reg(0), reg(3)), has: has, becomes: regs{0: 0x1122334455667700}},
		trial{i: inst(api.Mov, 1, reg(5), reg(15)), has: regs{5: a, 15: 0x1ff}, becomes: regs{5: 0x11223344556677ff}},
		trial{i: inst(api.Mov, 4, reg(0), reg(0)), has: has, becomes: regs{0: 0x55667788}},
		trial{i: inst(api.Mov, 8, based(3, 0), reg(0)), has: at, stores: []cell{{data + 8, 8, a}}},
		trial{i: inst(api.Mov, 4, based(3, 0), reg(0)), has: at, stores: []cell{{data + 8, 4, 0x55667788}}},
		trial{i: inst(api.Mov, 1, based(3, 0), reg(0)), has: at, stores: []cell{{data + 8, 1, 0x88}}},
		trial{i: inst(api.Mov, 8, reg(0), based(3, 0)), has: at, cells: place, becomes: regs{0: b}},
		trial{i: inst(api.Mov, 4, reg(0), based(3, 0)), has: at, cells: place, becomes: regs{0: 0xddeeff00}},
		trial{i: inst(api.Mov, 1, reg(0), based(3, 0)), has: at, cells: place, becomes: regs{0: 0x1122334455667700}},
		trial{i: inst(api.Mov, 8, reg(3), based(3, 0)), has: at, cells: place, becomes: regs{3: b}},
	)
}

func TestP703MovNumbers(t *testing.T) {
	const a = 0x1122334455667788
	at := regs{0: a, 3: data + 8}
	checkSteps(t,
		trial{i: inst(api.Mov, 8, reg(0), imm(5)), becomes: regs{0: 5}},
		trial{i: inst(api.Mov, 8, reg(0), imm(-1)), becomes: regs{0: 1<<64 - 1}},
		trial{i: inst(api.Mov, 8, reg(9), imm(0x123456789abcdef0)), becomes: regs{9: 0x123456789abcdef0}},
		trial{i: inst(api.Mov, 8, reg(9), imm(-1<<63)), becomes: regs{9: 1 << 63}},
		trial{i: inst(api.Mov, 8, reg(9), imm(1<<32-1)), becomes: regs{9: 1<<32 - 1}},
		trial{i: inst(api.Mov, 4, reg(0), imm(-1)), has: at, becomes: regs{0: 1<<32 - 1}},
		trial{i: inst(api.Mov, 4, reg(0), imm(1<<32-2)), has: at, becomes: regs{0: 1<<32 - 2}},
		trial{i: inst(api.Mov, 1, reg(0), imm(1)), has: at, becomes: regs{0: 0x1122334455667701}},
		trial{i: inst(api.Mov, 1, reg(0), imm(-2)), has: at, becomes: regs{0: 0x11223344556677fe}},
		trial{i: inst(api.Mov, 8, based(3, 0), imm(-2)), has: at, stores: []cell{{data + 8, 8, 1<<64 - 2}}},
		trial{i: inst(api.Mov, 4, based(3, 0), imm(-2)), has: at, stores: []cell{{data + 8, 4, 1<<32 - 2}}},
		trial{i: inst(api.Mov, 1, based(3, 0), imm(200)), has: at, stores: []cell{{data + 8, 1, 200}}},
	)
}

// TestP703Addresses: N, Base, Scale times Index, next and Fs, summed mod 2^64.
func TestP703Addresses(t *testing.T) {
	long := uint64(len(bytesOf(t, inst(api.Mov, 8, reg(0), rip(data-code)))))
	lea := uint64(len(bytesOf(t, inst(api.Lea, 8, reg(0), rip(-1)))))
	checkSteps(t,
		trial{i: inst(api.Mov, 8, reg(0), based(3, -8)), has: regs{3: data + 64}, becomes: regs{0: marks(data+56, 8)}},
		trial{i: inst(api.Mov, 8, reg(0), based(12, 1<<31-1)), has: regs{12: 1<<64 + data - 1<<31 + 1}, becomes: regs{0: marks(data, 8)}},
		trial{i: inst(api.Mov, 8, reg(0), based(13, -1<<31)), has: regs{13: data + 1<<31}, becomes: regs{0: marks(data, 8)}},
		trial{i: inst(api.Mov, 8, reg(0), based(5, data+32)), has: regs{5: 1<<64 - 32}, becomes: regs{0: marks(data, 8)}},
		trial{i: inst(api.Mov, 1, reg(0), indexed(3, 9, 1, 4)), has: regs{0: 0, 3: data, 9: 3}, becomes: regs{0: marks(data+7, 1)}},
		trial{i: inst(api.Mov, 1, reg(0), indexed(3, 9, 2, 4)), has: regs{0: 0, 3: data, 9: 3}, becomes: regs{0: marks(data+10, 1)}},
		trial{i: inst(api.Mov, 1, reg(0), indexed(3, 9, 4, 4)), has: regs{0: 0, 3: data, 9: 3}, becomes: regs{0: marks(data+16, 1)}},
		trial{i: inst(api.Mov, 1, reg(0), indexed(3, 9, 8, 4)), has: regs{0: 0, 3: data, 9: 3}, becomes: regs{0: marks(data+28, 1)}},
		trial{i: inst(api.Mov, 4, reg(0), indexed(3, 9, 8, 0)), has: regs{3: data + 80, 9: 1<<64 - 10}, becomes: regs{0: marks(data, 4)}},
		trial{i: inst(api.Mov, 4, reg(0), indexed(3, 9, 8, 0)), has: regs{3: data, 9: 5 << 61}, becomes: regs{0: marks(data, 4)}},
		trial{i: inst(api.Mov, 4, reg(0), indexed(3, 3, 1, 0)), has: regs{3: data / 2}, becomes: regs{0: marks(data, 4)}},
		trial{i: inst(api.Mov, 4, reg(0), indexed(4, 9, 2, 0)), has: regs{4: data, 9: 4}, becomes: regs{0: marks(data+8, 4)}},
		trial{i: inst(api.Mov, 8, reg(0), rip(data-code)), becomes: regs{0: marks(data+long, 8)}},
		trial{i: inst(api.Mov, 8, rip(data-code), reg(0)), has: regs{0: 77}, stores: []cell{{data + long, 8, 77}}},
		trial{i: inst(api.Mov, 8, reg(0), fs(0)), becomes: regs{0: marks(data+0x800, 8)}},
		trial{i: inst(api.Mov, 8, reg(0), fs(-8)), becomes: regs{0: marks(data+0x7f8, 8)}},
		trial{i: inst(api.Mov, 1, fs(16), imm(9)), stores: []cell{{data + 0x810, 1, 9}}},
		trial{i: inst(api.Lea, 8, reg(0), rip(-1)), becomes: regs{0: code + lea - 1}},
	)
}

// TestP703OverPages: what lies on both sides of a page's end, in memory that is read and that is written.
func TestP703OverPages(t *testing.T) {
	const end = data + page
	checkSteps(t,
		trial{i: inst(api.Mov, 8, reg(0), based(3, 0)), has: regs{3: end - 3}, becomes: regs{0: marks(end-3, 8)}},
		trial{i: inst(api.Mov, 8, based(3, 0), reg(0)), has: regs{0: 0x1122334455667788, 3: end - 3}, stores: []cell{{end - 3, 8, 0x1122334455667788}}},
		trial{i: inst(api.Mov, 4, reg(0), based(3, 0)), has: regs{3: fixed - 1}, becomes: regs{0: marks(fixed-1, 4)}},
	)
}

// TestP703Fs: it is the state's, whichever that is.
func TestP703Fs(t *testing.T) {
	for _, base := range []uint64{data, data + 100, 1<<64 - 8, 1<<64 + 8 + data - 1<<31, 1<<64 - 1} {
		s := wild()
		s.Fs = base
		n := int(int32(uint32(data + 8 - base)))
		x := program(t, s, inst(api.Mov, 8, reg(0), fs(n)))
		e := x.Step()
		if at := base + uint64(n); at != data+8 {
			check(t, e, api.ErrFault)
			continue
		}
		if check(t, e, api.OK); x.State().R[0] != marks(data+8, 8) || x.State().Fs != base {
			t.Errorf("fs %#x: %s", base, shown(x.State()))
		}
	}
}

// TestP703Lea: an address, wherever it is; of 4 bytes its low ones.
func TestP703Lea(t *testing.T) {
	has := regs{0: 1<<64 - 1, 3: 0x1234567890, 9: 0x4000000000000001}
	checkSteps(t,
		trial{i: inst(api.Lea, 8, reg(0), based(3, -0x90)), has: has, becomes: regs{0: 0x1234567800}},
		trial{i: inst(api.Lea, 4, reg(0), based(3, -0x90)), has: has, becomes: regs{0: 0x34567800}},
		trial{i: inst(api.Lea, 8, reg(3), indexed(3, 9, 4, 8)), has: has, becomes: regs{3: 0x123456789c}},
		trial{i: inst(api.Lea, 8, reg(3), indexed(3, 9, 2, 0)), has: has, becomes: regs{3: 0x8000001234567892}},
		trial{i: inst(api.Lea, 8, reg(0), based(0, 1)), has: has, becomes: regs{0: 0}},
		trial{i: inst(api.Lea, 4, reg(0), based(0, 0)), has: has, becomes: regs{0: 1<<32 - 1}},
		trial{i: inst(api.Lea, 8, reg(15), based(4, 8)), becomes: regs{15: stack + 0x808}},
		trial{i: inst(api.Lea, 8, reg(4), based(4, -32)), becomes: regs{4: stack + 0x800 - 32}},
	)
}

// TestP703Movzx: a byte with 0 ahead; TestP703Movsx: with its sign.
func TestP703Movzx(t *testing.T) {
	has := regs{0: 1<<64 - 1, 3: 0x1ff, 6: 0xff80, 7: data + 9}
	place := []cell{{data + 9, 8, 0x0102030405060780}}
	checkSteps(t,
		trial{i: inst(api.Movzx, 8, reg(0), reg(3)), has: has, becomes: regs{0: 255}},
		trial{i: inst(api.Movzx, 4, reg(0), reg(3)), has: has, becomes: regs{0: 255}},
		trial{i: inst(api.Movzx, 4, reg(0), reg(6)), has: has, becomes: regs{0: 128}},
		trial{i: inst(api.Movzx, 8, reg(0), based(7, 0)), has: has, cells: place, becomes: regs{0: 128}},
		trial{i: inst(api.Movzx, 4, reg(7), based(7, 1)), has: has, cells: place, becomes: regs{7: 7}},
	)
}

func TestP703Movsx(t *testing.T) {
	has := regs{0: 0x1122334455667788, 3: 0x17f, 6: 0x80, 7: data + 9}
	place := []cell{{data + 9, 8, 0x0102030405060780}}
	checkSteps(t,
		trial{i: inst(api.Movsx, 8, reg(0), reg(3)), has: has, becomes: regs{0: 127}},
		trial{i: inst(api.Movsx, 8, reg(0), reg(6)), has: has, becomes: regs{0: 1<<64 - 128}},
		trial{i: inst(api.Movsx, 4, reg(0), reg(6)), has: has, becomes: regs{0: 1<<32 - 128}},
		trial{i: inst(api.Movsx, 4, reg(6), reg(6)), has: has, becomes: regs{6: 1<<32 - 128}},
		trial{i: inst(api.Movsx, 8, reg(0), based(7, 0)), has: has, cells: place, becomes: regs{0: 1<<64 - 128}},
		trial{i: inst(api.Movsx, 4, reg(0), based(7, 0)), has: has, cells: place, becomes: regs{0: 1<<32 - 128}},
		trial{i: inst(api.Movsx, 4, reg(0), based(7, 1)), has: has, cells: place, becomes: regs{0: 7}},
	)
	// One byte alone is read: the last one that may be.
	s := wild()
	s.R[3] = data + 3*page - 1
	for _, op := range []int{api.Movzx, api.Movsx} {
		x := program(t, s, inst(op, 8, reg(0), based(3, 0)))
		check(t, x.Step(), api.OK)
	}
}

// TestP703Xchg: both, with memory too, whose address counts with what its registers were.
func TestP703Xchg(t *testing.T) {
	const a, b = 0x1122334455667788, 0x99aabbccddeeff00
	has := regs{0: a, 3: b, 6: data + 8}
	place := []cell{{data + 8, 8, b}}
	checkSteps(t,
		trial{i: inst(api.Xchg, 8, reg(0), reg(3)), has: has, becomes: regs{0: b, 3: a}},
		trial{i: inst(api.Xchg, 4, reg(0), reg(3)), has: has, becomes: regs{0: 0xddeeff00, 3: 0x55667788}},
		trial{i: inst(api.Xchg, 8, reg(0), reg(0)), has: has},
		trial{i: inst(api.Xchg, 4, reg(0), reg(0)), has: has, becomes: regs{0: 0x55667788}},
		trial{i: inst(api.Xchg, 8, based(6, 0), reg(0)), has: has, cells: place, becomes: regs{0: b}, stores: []cell{{data + 8, 8, a}}},
		trial{i: inst(api.Xchg, 4, based(6, 0), reg(0)), has: has, cells: place, becomes: regs{0: 0xddeeff00}, stores: []cell{{data + 8, 4, 0x55667788}}},
		trial{i: inst(api.Xchg, 8, based(6, 0), reg(6)), has: has, cells: place, becomes: regs{6: b}, stores: []cell{{data + 8, 8, data + 8}}},
	)
}

func TestP703CqoNop(t *testing.T) {
	for _, f := range []api.Flags{{}, every()} {
		checkSteps(t,
			trial{i: only(api.Cqo), has: regs{0: 1<<63 - 1}, flags: f, becomes: regs{2: 0}, then: f},
			trial{i: only(api.Cqo), has: regs{0: 0}, flags: f, becomes: regs{2: 0}, then: f},
			trial{i: only(api.Cqo), has: regs{0: 1 << 63}, flags: f, becomes: regs{2: 1<<64 - 1}, then: f},
			trial{i: only(api.Cqo), has: regs{0: 1<<64 - 1}, flags: f, becomes: regs{2: 1<<64 - 1}, then: f},
			trial{i: only(api.Nop), flags: f, then: f},
		)
	}
}

// TestP703Cmov: both ways of the condition, in both sizes: of 4 bytes the others become 0 either way.
func TestP703Cmov(t *testing.T) {
	const a, b = 0x1122334455667788, 0x99aabbccddeeff00
	has := regs{0: a, 3: b, 6: data + 8}
	place := []cell{{data + 8, 8, b}}
	z := api.Flags{Z: true}
	checkSteps(t,
		trial{i: conditional(api.Cmov, 8, 4, reg(0), reg(3)), has: has, flags: z, then: z, becomes: regs{0: b}},
		trial{i: conditional(api.Cmov, 8, 5, reg(0), reg(3)), has: has, flags: z, then: z},
		trial{i: conditional(api.Cmov, 4, 4, reg(0), reg(3)), has: has, flags: z, then: z, becomes: regs{0: 0xddeeff00}},
		trial{i: conditional(api.Cmov, 4, 5, reg(0), reg(3)), has: has, flags: z, then: z, becomes: regs{0: 0x55667788}},
		trial{i: conditional(api.Cmov, 8, 4, reg(0), based(6, 0)), has: has, flags: z, then: z, cells: place, becomes: regs{0: b}},
		trial{i: conditional(api.Cmov, 8, 4, reg(0), based(6, 0)), has: has, cells: place},
		trial{i: conditional(api.Cmov, 4, 4, reg(0), based(6, 0)), has: has, cells: place, becomes: regs{0: 0x55667788}},
	)
	// From is read where the condition does not hold, too.
	for cond := range 16 {
		s := wild()
		s.R[6] = nowhere
		fails(t, program(t, s, conditional(api.Cmov, 8, cond, reg(0), based(6, 0))), api.ErrFault)
		s.R[6] = fixed
		check(t, program(t, s, conditional(api.Cmov, 8, cond, reg(0), based(6, 0))).Step(), api.OK)
	}
}

func TestP703Setcc(t *testing.T) {
	const a = 0x1122334455667788
	has := regs{0: a, 6: data + 8}
	z := api.Flags{Z: true}
	checkSteps(t,
		trial{i: conditional(api.Setcc, 1, 4, reg(0), api.Operand{}), has: has, flags: z, then: z, becomes: regs{0: 0x1122334455667701}},
		trial{i: conditional(api.Setcc, 1, 5, reg(0), api.Operand{}), has: has, flags: z, then: z, becomes: regs{0: 0x1122334455667700}},
		trial{i: conditional(api.Setcc, 1, 4, based(6, 0), api.Operand{}), has: has, flags: z, then: z, stores: []cell{{data + 8, 1, 1}}},
		trial{i: conditional(api.Setcc, 1, 5, based(6, 0), api.Operand{}), has: has, flags: z, then: z, stores: []cell{{data + 8, 1, 0}}},
	)
	// What is written alone is not read.
	s := wild()
	s.R[6] = blind
	check(t, program(t, s, conditional(api.Setcc, 1, 4, based(6, 0), api.Operand{})).Step(), api.OK)
	check(t, program(t, s, inst(api.Mov, 8, based(6, 0), reg(0))).Step(), api.OK)
}

// TestP703Conditions: each of the sixteen, with all flags, in all three that have one: it is said here once more what it is.
func TestP703Conditions(t *testing.T) {
	for cond := range 16 {
		for _, f := range allFlags() {
			is := [8]bool{f.O, f.C, f.Z, f.C || f.Z, f.S, f.P, f.S != f.O, f.Z || f.S != f.O}[cond/2] != (cond%2 == 1)
			s := wild()
			s.Flags = f
			s.R[0], s.R[1] = 7, 7
			want := s
			if want.Rip += 6; is {
				want.Rip += 100
			}
			x := program(t, s, conditional(api.Jcc, 8, cond, target(100), api.Operand{}))
			check(t, x.Step(), api.OK)
			checkState(t, x, want)
			want = s
			if want.R[0] = 0; is {
				want.R[0], want.R[1] = 1, s.R[3]
			}
			x = program(t, s, conditional(api.Setcc, 1, cond, reg(0), api.Operand{}), conditional(api.Cmov, 8, cond, reg(1), reg(3)))
			checkRun(t, x, 2, 2, api.ErrBudget)
			want.Rip = x.State().Rip
			checkState(t, x, want)
		}
	}
}

// TestP703Examples: those of the chapter.
func TestP703Examples(t *testing.T) {
	s := machine.State{Rip: code}
	s.R[api.Rsp], s.R[api.Rdi], s.R[api.Rsi], s.R[api.Rdx] = stack+page, 1, data, 2
	x := program(t, s, inst(api.Mov, 8, reg(0), imm(5)), inst(api.Add, 8, reg(0), reg(0)), inst(api.Mov, 4, reg(0), imm(1)), only(api.Syscall), push(reg(4)), inst(api.Mov, 4, reg(0), imm(60)), inst(api.Mov, 4, reg(7), imm(7)), only(api.Syscall))
	check(t, x.Memory().Write(data, []byte("hi")), api.OK)
	checkRun(t, x, 2, 2, api.ErrBudget)
	if x.State().R[0] != 10 {
		t.Error(shown(x.State()))
	}
	checkRun(t, x, 2, 2, api.ErrBudget)
	checkOut(t, x, "hi")
	checkRun(t, x, 1, 1, api.ErrBudget)
	checkLoad(t, x.Memory(), stack+page-8, 8, stack+page)
	checkRun(t, x, 100, 3, api.OK)
	checkExit(t, x, 7, true)
	fails(t, made(t, world(t), machine.State{Rip: nowhere}), api.ErrFault)
	fails(t, program(t, s, only(api.Ud2)), api.ErrForm)
}
