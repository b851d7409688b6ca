package decode

import "gangway/api"

// paired: an even opcode is of one byte's operands, the odd one behind it of four and eight.
const paired = -1

// Bits of an opcode that tell something beside what it means: which one of a pair, a register, a condition, one of the eight sums and of a pair.
const (
	pair      = 0x01
	low       = 0x07
	condition = 0x0f
	sum       = 0x39
)

// What may stand beside an opcode: as bits of REX a register within it, ModRM with a digit, or with a register; that r/m may be a register too; that it is one byte though the size is greater; that it is not of the thread's base.
const (
	nothing  = 0
	within   = rexBase
	digit    = rexIndex | rexBase
	register = rexReg | rexIndex | rexBase
	direct   = 16
	ofByte   = 32
	notFs    = 64
)

// row: what an opcode means, whatever its bits of varies are. ops are by ModRM's digit, or by a sum's number; else the first one is meant. size is the one without W, which makes 8 of 4 and is ahead of no other. read puts the operands in, from what stands behind ModRM.
type row struct {
	code, varies int
	ops          [8]byte
	size         int
	beside       int
	read         func(*reader, *api.Inst)
}

func table() [40]row {
	sums := [8]byte{api.Add, api.Or, api.Adc, api.Sbb, api.And, api.Sub, api.Xor, api.Cmp}
	shifts := [8]byte{4: api.Shl, 5: api.Shr, 7: api.Sar}
	return [40]row{
		{0x00, sum, sums, paired, register | direct, stored},
		{0x02, sum, sums, paired, register, loaded},
		{0x50, low, [8]byte{api.Push}, 8, within, pushedRegister},
		{0x58, low, [8]byte{api.Pop}, 8, within, poppedRegister},
		{0x68, 0, [8]byte{api.Push}, 8, nothing, pushedLong},
		{0x6a, 0, [8]byte{api.Push}, 8, nothing, pushedShort},
		{0x70, condition, [8]byte{api.Jcc}, 8, nothing, jumpedShort},
		{0x80, 0, sums, 1, digit | direct, numbered},
		{0x81, 0, sums, 4, digit | direct, numberedLong},
		{0x83, 0, sums, 4, digit | direct, numberedShort},
		{0x84, pair, [8]byte{api.Test}, paired, register | direct, stored},
		{0x87, 0, [8]byte{api.Xchg}, 4, register | direct, stored},
		{0x88, pair, [8]byte{api.Mov}, paired, register | direct, stored},
		{0x8a, pair, [8]byte{api.Mov}, paired, register, loaded},
		{0x8d, 0, [8]byte{api.Lea}, 4, register | notFs, loaded},
		{0x8f, 0, [8]byte{api.Pop}, 8, digit, changed},
		{0x90, 0, [8]byte{api.Nop}, 0, nothing, alone},
		{0x99, 0, [8]byte{api.Cqo}, 4, nothing, aloneWide},
		{0xb0, low, [8]byte{api.Mov}, 1, within, movedByte},
		{0xb8, low, [8]byte{api.Mov}, 4, within, moved},
		{0xc0, pair, shifts, paired, digit | direct, shifted},
		{0xc3, 0, [8]byte{api.Ret}, 0, nothing, alone},
		{0xc6, 0, [8]byte{api.Mov}, 1, digit, numbered},
		{0xc7, 0, [8]byte{api.Mov}, 4, digit | direct, numberedWide},
		{0xc9, 0, [8]byte{api.Leave}, 0, nothing, alone},
		{0xd2, pair, shifts, paired, digit | direct, shiftedByRcx},
		{0xe8, 0, [8]byte{api.Call}, 8, nothing, jumped},
		{0xe9, 0, [8]byte{api.Jmp}, 8, nothing, jumped},
		{0xeb, 0, [8]byte{api.Jmp}, 8, nothing, jumpedShort},
		{0xf6, pair, [8]byte{0: api.Test, 2: api.Not, 3: api.Neg}, paired, digit | direct, testedOrChanged},
		{0xfe, 0, [8]byte{api.Inc, api.Dec}, 1, digit | direct, changed},
		{0xff, 0, [8]byte{0: api.Inc, 1: api.Dec, 2: api.Call, 4: api.Jmp, 6: api.Push}, 4, digit | direct, changedOrReached},
		{0x0f05, 0, [8]byte{api.Syscall}, 0, nothing, alone},
		{0x0f0b, 0, [8]byte{api.Ud2}, 0, nothing, alone},
		{0x0f40, condition, [8]byte{api.Cmov}, 4, register | direct, loaded},
		{0x0f80, condition, [8]byte{api.Jcc}, 8, nothing, jumped},
		{0x0f90, condition, [8]byte{api.Setcc}, 1, digit | direct, changed},
		{0x0faf, 0, [8]byte{api.Imul}, 4, register | direct, loaded},
		{0x0fb6, 0, [8]byte{api.Movzx}, 4, register | direct | ofByte, loaded},
		{0x0fbe, 0, [8]byte{api.Movsx}, 4, register | direct | ofByte, loaded},
	}
}

func rowOf(opcode int) row {
	rows := table()
	for k := range rows {
		if opcode&^rows[k].varies == rows[k].code {
			return rows[k]
		}
	}
	panic(api.ErrForm)
}

func (w row) has(bit int) bool { return w.beside&bit != 0 }

func (w row) hasModRM() bool { return w.has(rexIndex) }

func (r *reader) sizeIn(w row) int {
	size := w.size
	if size == paired {
		size = 1 + 3*(r.opcode&pair)
	}
	if !r.has(rexWide) {
		return size
	}
	insist(size == 4)
	return 8
}

func (r *reader) opIn(w row) int {
	k := 0
	switch {
	case w.varies == sum:
		k = r.opcode >> 3
	case !w.has(rexReg):
		k = r.reg
	}
	insist(w.ops[k] != 0)
	return int(w.ops[k])
}

func (r *reader) conditionIn(w row) int {
	if w.varies == condition {
		return r.opcode & condition
	}
	return 0
}
