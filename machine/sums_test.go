package machine_test

import (
	"testing"

	"gangway/api"
)

// Flags by their letters.
var (
	none   = api.Flags{}
	fC     = api.Flags{C: true}
	fP     = api.Flags{P: true}
	fS     = api.Flags{S: true}
	fZP    = api.Flags{Z: true, P: true}
	fCZP   = api.Flags{C: true, Z: true, P: true}
	fSP    = api.Flags{S: true, P: true}
	fCSP   = api.Flags{C: true, S: true, P: true}
	fSO    = api.Flags{S: true, O: true}
	fSPO   = api.Flags{S: true, P: true, O: true}
	fCP    = api.Flags{C: true, P: true}
	fCO    = api.Flags{C: true, O: true}
	fCS    = api.Flags{C: true, S: true}
	fCZPO  = api.Flags{C: true, Z: true, P: true, O: true}
	filled = uint64(0x1122334455667788)
)

// TestP703Sums: each of the eight of two operands, by its own result and flags, whatever the flags were.
func TestP703Sums(t *testing.T) {
	for _, c := range []struct {
		op   int
		a, b uint64
		old  api.Flags
		want uint64
		then api.Flags
	}{
		{api.Add, 200, 56, every(), 0, fCZP},
		{api.Add, 127, 1, fC, 128, fSO},
		{api.Adc, 127, 0, fC, 128, fSO},
		{api.Adc, 127, 1, none, 128, fSO},
		{api.Adc, 255, 255, fC, 255, fCSP},
		{api.Sub, 3, 5, fC, 254, fCS},
		{api.Sub, 5, 5, every(), 0, fZP},
		{api.Sbb, 5, 5, fC, 255, fCSP},
		{api.Sbb, 5, 4, fC, 0, fZP},
		{api.Sbb, 5, 4, fZP, 1, none},
		{api.And, 0xf0, 0x9f, every(), 0x90, fSP},
		{api.Or, 0x50, 0x06, every(), 0x56, fP},
		{api.Xor, 0x55, 0x55, every(), 0, fZP},
		{api.Xor, 0x55, 0xd5, fC, 0x80, fS},
	} {
		eachWay(t, c.op, c.a, c.b, c.old, c.want, c.then)
	}
}

// eachWay: of two bytes: between registers, with memory on either side, and with a number; then in the other sizes, with both bytes at their tops.
func eachWay(t *testing.T, op int, a, b uint64, old api.Flags, want uint64, then api.Flags) {
	t.Helper()
	ways := func(size int, a, b, want, kept uint64, then api.Flags) {
		t.Helper()
		above := kept &^ 0xff
		checkSteps(t,
			trial{i: inst(op, size, reg(0), reg(9)), has: regs{0: above | a, 9: b}, flags: old, becomes: regs{0: want}, then: then},
			trial{i: inst(op, size, reg(0), based(9, 1)), has: regs{0: above | a, 9: data}, cells: []cell{{data + 1, size, b}}, flags: old, becomes: regs{0: want}, then: then},
			trial{i: inst(op, size, based(9, 1), reg(0)), has: regs{0: above | b, 9: data}, cells: []cell{{data + 1, size, a}}, flags: old, stores: []cell{{data + 1, size, want}}, then: then},
			trial{i: inst(op, size, reg(0), imm(int(int32(b)))), has: regs{0: above | a}, flags: old, becomes: regs{0: want}, then: then},
			trial{i: inst(op, size, based(9, 1), imm(int(int32(b)))), has: regs{9: data}, cells: []cell{{data + 1, size, a}}, flags: old, stores: []cell{{data + 1, size, want}}, then: then},
		)
	}
	ways(1, a, b, filled&^0xff|want, filled, then)
	// A carry into the lowest byte would not show in the top one.
	if op == api.Adc || op == api.Sbb {
		return
	}
	then.P = true // the low byte is 0
	ways(4, a<<24, b<<24, want<<24, 0, then)
	checkSteps(t, trial{i: inst(op, 8, reg(0), reg(9)), has: regs{0: a << 56, 9: b << 56}, flags: old, becomes: regs{0: want << 56}, then: then})
	checkSteps(t, trial{i: inst(op, 8, based(3, 1), reg(9)), has: regs{3: data, 9: b << 56}, cells: []cell{{data + 1, 8, a << 56}}, flags: old, stores: []cell{{data + 1, 8, want << 56}}, then: then})
	checkSteps(t, trial{i: inst(op, 8, reg(9), based(3, 1)), has: regs{3: data, 9: a << 56}, cells: []cell{{data + 1, 8, b << 56}}, flags: old, becomes: regs{9: want << 56}, then: then})
}

// TestP703Carries: the carry flag counts in each size, with numbers that have their sign in 8 bytes; 4 bytes make the others 0.
func TestP703Carries(t *testing.T) {
	const all = 1<<64 - 1
	checkSteps(t,
		trial{i: inst(api.Adc, 8, reg(0), imm(-1)), has: regs{0: 5}, flags: fC, becomes: regs{0: 5}, then: fCP},
		trial{i: inst(api.Adc, 8, reg(0), imm(-1)), has: regs{0: 5}, becomes: regs{0: 4}, then: fC},
		trial{i: inst(api.Adc, 4, reg(0), reg(3)), has: regs{0: all, 3: all}, flags: fC, becomes: regs{0: 1<<32 - 1}, then: fCSP},
		trial{i: inst(api.Sbb, 8, reg(0), reg(0)), has: regs{0: 9}, flags: fC, becomes: regs{0: all}, then: fCSP},
		trial{i: inst(api.Sbb, 4, reg(0), reg(0)), has: regs{0: all}, flags: fC, becomes: regs{0: 1<<32 - 1}, then: fCSP},
		trial{i: inst(api.Sbb, 8, based(3, 0), imm(0)), has: regs{3: data}, cells: []cell{{data, 8, 1 << 63}}, flags: fC, stores: []cell{{data, 8, 1<<63 - 1}}, then: api.Flags{P: true, O: true}},
		trial{i: inst(api.Add, 8, reg(0), imm(-1)), has: regs{0: 0}, flags: fC, becomes: regs{0: all}, then: fSP},
		trial{i: inst(api.Sub, 8, reg(0), imm(-1<<31)), has: regs{0: 0}, becomes: regs{0: 1 << 31}, then: fCP},
		trial{i: inst(api.And, 8, reg(0), imm(-256)), has: regs{0: filled}, flags: every(), becomes: regs{0: filled &^ 0xff}, then: fP},
		trial{i: inst(api.Or, 4, reg(0), imm(-1)), has: regs{0: filled}, becomes: regs{0: 1<<32 - 1}, then: fSP},
		trial{i: inst(api.Xor, 4, reg(0), reg(0)), has: regs{0: filled}, becomes: regs{0: 0}, then: fZP},
		trial{i: inst(api.Add, 8, reg(4), imm(8)), becomes: regs{4: stack + 0x808}, then: none},
		trial{i: inst(api.Add, 8, reg(3), based(3, 0)), has: regs{3: data}, cells: []cell{{data, 8, 1}}, becomes: regs{3: data + 1}, then: none},
	)
}

// TestP703CmpTest: flags alone; Cmp without the carry; memory is read, and need not be written.
func TestP703CmpTest(t *testing.T) {
	for _, old := range allFlags() {
		checkSteps(t,
			trial{i: inst(api.Cmp, 8, reg(0), reg(3)), has: regs{0: 5, 3: 5}, flags: old, then: fZP},
			trial{i: inst(api.Cmp, 4, reg(0), reg(3)), has: regs{0: 1<<32 + 3, 3: 5}, flags: old, then: fCS},
			trial{i: inst(api.Cmp, 1, reg(0), imm(-1)), has: regs{0: filled&^0xff | 0x7f}, flags: old, then: api.Flags{C: true, S: true, O: true}},
			trial{i: inst(api.Cmp, 8, reg(0), based(3, 0)), has: regs{0: 1 << 63, 3: data}, cells: []cell{{data, 8, 1}}, flags: old, then: api.Flags{P: true, O: true}},
			trial{i: inst(api.Cmp, 8, based(3, 0), reg(0)), has: regs{0: 2, 3: data}, cells: []cell{{data, 8, 1}}, flags: old, then: fCSP},
			trial{i: inst(api.Test, 8, reg(0), reg(0)), has: regs{0: 1 << 63}, flags: old, then: fSP},
			trial{i: inst(api.Test, 4, reg(0), reg(0)), has: regs{0: 1 << 63}, flags: old, then: fZP},
			trial{i: inst(api.Test, 1, reg(0), imm(0x80)), has: regs{0: 0x80}, flags: old, then: fS},
			trial{i: inst(api.Test, 4, based(3, 0), imm(-1)), has: regs{3: data}, cells: []cell{{data, 4, 7}}, flags: old, then: none},
			trial{i: inst(api.Test, 8, based(3, 0), reg(0)), has: regs{0: 1, 3: data}, cells: []cell{{data, 8, 2}}, flags: old, then: fZP},
		)
	}
	s := wild()
	s.R[3] = fixed + 8
	for _, op := range []int{api.Cmp, api.Test} {
		check(t, program(t, s, inst(op, 8, based(3, 0), reg(0))).Step(), api.OK)
		fails(t, program(t, s, inst(api.Add, 8, based(3, 0), reg(0))), api.ErrFault)
	}
}

func TestP703Imul(t *testing.T) {
	checkSteps(t,
		trial{i: inst(api.Imul, 8, reg(0), reg(3)), has: regs{0: 7, 3: 1<<64 - 3}, flags: every(), becomes: regs{0: 1<<64 - 21}, then: fSP},
		trial{i: inst(api.Imul, 8, reg(0), reg(3)), has: regs{0: 1 << 63, 3: 2}, becomes: regs{0: 0}, then: fCZPO},
		trial{i: inst(api.Imul, 4, reg(0), reg(3)), has: regs{0: 1<<32 + 3, 3: 1<<33 + 5}, flags: every(), becomes: regs{0: 15}, then: fP},
		trial{i: inst(api.Imul, 4, reg(0), reg(3)), has: regs{0: 1 << 31, 3: 1<<32 - 1}, becomes: regs{0: 1 << 31}, then: api.Flags{C: true, S: true, P: true, O: true}},
		trial{i: inst(api.Imul, 8, reg(0), based(3, 8)), has: regs{0: 3, 3: data}, cells: []cell{{data + 8, 8, 4}}, becomes: regs{0: 12}, then: fP},
		trial{i: inst(api.Imul, 4, reg(3), based(3, 8)), has: regs{3: data}, cells: []cell{{data + 8, 8, 1<<32 - 1}}, becomes: regs{3: 1<<32 - data}, then: fSP},
		trial{i: inst(api.Imul, 8, reg(3), reg(3)), has: regs{3: 16}, becomes: regs{3: 256}, then: fP},
	)
}

// TestP703Single: Neg, Not, Inc and Dec of registers and memory in each size; Not leaves the flags, Inc and Dec the carry.
func TestP703Single(t *testing.T) {
	for _, c := range []struct {
		op, size int
		a        uint64
		old      api.Flags
		want     uint64
		then     api.Flags
	}{
		{api.Neg, 1, 1, none, 255, fCSP},
		{api.Neg, 4, 1, none, 1<<32 - 1, fCSP},
		{api.Neg, 8, 1, none, 1<<64 - 1, fCSP},
		{api.Neg, 8, 0, every(), 0, fZP},
		{api.Not, 1, 0x0f, every(), 0xf0, every()},
		{api.Not, 4, 0x0f, none, 1<<32 - 16, none},
		{api.Not, 8, 0x0f, fC, 1<<64 - 16, fC},
		{api.Inc, 1, 255, fC, 0, fCZP},
		{api.Inc, 1, 255, none, 0, fZP},
		{api.Inc, 4, 1<<31 - 1, none, 1 << 31, fSPO},
		{api.Inc, 8, 1<<64 - 1, fC, 0, fCZP},
		{api.Dec, 1, 0, none, 255, fSP},
		{api.Dec, 4, 0, fC, 1<<32 - 1, fCSP},
		{api.Dec, 8, 1, every(), 0, fCZP},
	} {
		i := inst(c.op, c.size, reg(10), api.Operand{})
		above, kept := uint64(0), uint64(0)
		switch c.size {
		case 1:
			above, kept = filled&^0xff, filled&^0xff
		case 4:
			above = 5 << 32
		}
		checkSteps(t, trial{i: i, has: regs{10: above | c.a}, flags: c.old, becomes: regs{10: kept | c.want}, then: c.then})
		i.To = indexed(5, 6, 2, -1)
		checkSteps(t, trial{i: i, has: regs{5: data, 6: 8}, cells: []cell{{data + 15, c.size, c.a}}, flags: c.old, stores: []cell{{data + 15, c.size, c.want}}, then: c.then})
	}
}

// TestP703Shifts: by a number and by rcx's low byte, of registers and of memory, in each size.
func TestP703Shifts(t *testing.T) {
	for _, c := range []struct {
		op, size, count int
		a               uint64
		old             api.Flags
		want            uint64
		then            api.Flags
	}{
		{api.Shl, 8, 63, 3, none, 1 << 63, fCSP},
		{api.Shl, 8, 1, 1 << 63, none, 0, fCZPO},
		{api.Shl, 4, 31, 1, every(), 1 << 31, fSP},
		{api.Shl, 1, 7, 3, none, 128, fCS},
		{api.Shr, 8, 63, 1 << 63, every(), 1, none},
		{api.Shr, 4, 1, 3, none, 1, fC},
		{api.Shr, 1, 1, 0x81, none, 0x40, fCO},
		{api.Sar, 8, 63, 1 << 63, none, 1<<64 - 1, fSP},
		{api.Sar, 4, 4, 1<<32 - 8, every(), 1<<32 - 1, fCSP},
		{api.Sar, 1, 1, 0x81, none, 0xc0, fCSP},
		{api.Shl, 8, 0, 5, every(), 5, every()},
		{api.Shr, 4, 0, 5, fC, 5, fC},
		{api.Sar, 1, 0, 5, none, 5, none},
	} {
		counted := uint64(0xabcdef00 + c.count)
		at := []cell{{data + 15, c.size, c.a}}
		to := []cell{{data + 15, c.size, c.want}}
		checkSteps(t,
			trial{i: inst(c.op, c.size, reg(3), imm(c.count)), has: regs{3: c.a}, flags: c.old, becomes: regs{3: c.want}, then: c.then},
			trial{i: inst(c.op, c.size, reg(3), reg(1)), has: regs{1: counted, 3: c.a}, flags: c.old, becomes: regs{3: c.want}, then: c.then},
			trial{i: inst(c.op, c.size, based(3, 15), imm(c.count)), has: regs{3: data}, cells: at, flags: c.old, stores: to, then: c.then},
			trial{i: inst(c.op, c.size, based(3, 15), reg(1)), has: regs{1: counted, 3: data}, cells: at, flags: c.old, stores: to, then: c.then},
		)
	}
}

// TestP703ShiftCounts: a count of rcx is its low byte, of which 5 bits count, of 8 bytes 6; rcx may be shifted by itself.
func TestP703ShiftCounts(t *testing.T) {
	checkSteps(t,
		trial{i: inst(api.Shl, 8, reg(0), reg(1)), has: regs{0: 5, 1: 0x100}, flags: every(), then: every()},
		trial{i: inst(api.Shl, 8, reg(0), reg(1)), has: regs{0: 5, 1: 64}, flags: fC, then: fC},
		trial{i: inst(api.Shl, 8, reg(0), reg(1)), has: regs{0: 5, 1: 0xffffffffffffff41}, becomes: regs{0: 10}, then: fP},
		trial{i: inst(api.Shl, 4, reg(0), reg(1)), has: regs{0: filled, 1: 32}, flags: fS, becomes: regs{0: 0x55667788}, then: fS},
		trial{i: inst(api.Shl, 4, reg(0), reg(1)), has: regs{0: 5, 1: 255}, becomes: regs{0: 1 << 31}, then: fSP},
		trial{i: inst(api.Shl, 4, reg(0), imm(0)), has: regs{0: filled}, flags: fS, becomes: regs{0: 0x55667788}, then: fS},
		trial{i: inst(api.Shr, 1, reg(0), reg(1)), has: regs{0: filled, 1: 9}, becomes: regs{0: filled &^ 0xff}, then: fZP},
		trial{i: inst(api.Shl, 8, reg(1), reg(1)), has: regs{1: 0x103}, becomes: regs{1: 0x818}, then: fP},
		trial{i: inst(api.Shr, 8, reg(0), imm(63)), has: regs{0: 1 << 63}, becomes: regs{0: 1}, then: none},
	)
	// Also by 0 memory is written, so it must be allowed.
	s := wild()
	s.R[3] = fixed
	fails(t, program(t, s, inst(api.Shl, 8, based(3, 0), imm(0))), api.ErrFault)
}
