package encode

import "gangway/api"

// opcode: one byte, or two, of which the first one stands above.
type opcode uint16

// sized: the opcode of one byte's operands, and the one of four and eight; 0 where the op has no such sizes.
type sized [2]opcode

// row: what an op is written as, by what it stands with: a register and r/m that is written, or read; a number; r/m alone, or nothing; a register within the opcode. A number that fits into a byte, though the operands are greater, has an opcode of its own (short), if there is one.
type row struct {
	store, load, number, alone, plus sized
	short                            opcode
	digit                            int
	wide                             bool
}

func table() [api.LastOp + 1]row {
	return [api.LastOp + 1]row{
		api.Mov:     {store: sized{0x88, 0x89}, load: sized{0x8a, 0x8b}, number: sized{0xc6, 0xc7}, plus: sized{0xb0, 0xb8}, wide: true},
		api.Lea:     {load: sized{0, 0x8d}, wide: true},
		api.Add:     sum(0),
		api.Or:      sum(1),
		api.Adc:     sum(2),
		api.Sbb:     sum(3),
		api.And:     sum(4),
		api.Sub:     sum(5),
		api.Xor:     sum(6),
		api.Cmp:     sum(7),
		api.Test:    {store: sized{0x84, 0x85}, number: sized{0xf6, 0xf7}, wide: true},
		api.Imul:    {load: sized{0, 0x0faf}, wide: true},
		api.Neg:     {alone: sized{0xf6, 0xf7}, digit: 3, wide: true},
		api.Not:     {alone: sized{0xf6, 0xf7}, digit: 2, wide: true},
		api.Inc:     {alone: sized{0xfe, 0xff}, wide: true},
		api.Dec:     {alone: sized{0xfe, 0xff}, digit: 1, wide: true},
		api.Shl:     shift(4),
		api.Shr:     shift(5),
		api.Sar:     shift(7),
		api.Push:    {number: sized{0, 0x68}, short: 0x6a, alone: sized{0, 0xff}, plus: sized{0, 0x50}, digit: 6},
		api.Pop:     {alone: sized{0, 0x8f}, plus: sized{0, 0x58}},
		api.Call:    {number: sized{0, 0xe8}, alone: sized{0, 0xff}, digit: 2},
		api.Jmp:     {number: sized{0, 0xe9}, short: 0xeb, alone: sized{0, 0xff}, digit: 4},
		api.Jcc:     {number: sized{0, 0x0f80}, short: 0x70},
		api.Ret:     {alone: sized{0, 0xc3}},
		api.Leave:   {alone: sized{0, 0xc9}},
		api.Setcc:   {alone: sized{0x0f90, 0}},
		api.Cmov:    {load: sized{0, 0x0f40}, wide: true},
		api.Movzx:   {load: sized{0, 0x0fb6}, wide: true},
		api.Movsx:   {load: sized{0, 0x0fbe}, wide: true},
		api.Xchg:    {store: sized{0, 0x87}, wide: true},
		api.Cqo:     {alone: sized{0, 0x4899}},
		api.Nop:     {alone: sized{0, 0x90}},
		api.Ud2:     {alone: sized{0, 0x0f0b}},
		api.Syscall: {alone: sized{0, 0x0f05}},
	}
}

// sum: the eight ops from Add to Cmp differ by their number alone.
func sum(k opcode) row {
	return row{store: sized{8 * k, 8*k + 1}, load: sized{8*k + 2, 8*k + 3}, number: sized{0x80, 0x81}, short: 0x83, digit: int(k), wide: true}
}

// shift: a count is always short, and by rcx r/m stands alone.
func shift(digit int) row {
	return row{number: sized{0xc0, 0}, short: 0xc1, alone: sized{0xd2, 0xd3}, digit: digit, wide: true}
}

// of: the one that an instruction of this size has.
func (s sized) of(size int) opcode {
	if size == 1 {
		return s[0]
	}
	return s[1]
}
