package encode

import (
	"gangway/api"
	"gangway/leb"
)

// field: a number, and how many bytes it has; none, if it is not there.
type field struct{ n, size int }

// parts: what an instruction's bytes are made of. reg is a register or a number of the table; within is a register that stands in the opcode; rm is None where there is no ModRM. REX may be there for a register of one byte alone.
type parts struct {
	opcode    opcode
	wide      bool
	reg       int
	within    int
	rm        api.Operand
	place     place
	number    field
	byteAbove bool
}

func partsOf(i api.Inst) parts {
	r := table()[i.Op]
	p := r.choose(i)
	// Without a condition Cond is 0.
	p.opcode += opcode(i.Cond)
	p.wide = r.wide && i.Size == 8
	p.place = placeOf(p.rm)
	p.byteAbove = hasByteAbove(i)
	return p
}

// choose: of the ways that its op is written in the one of an instruction: an op that has more of them than others falls through to what all have.
func (r row) choose(i api.Inst) parts {
	switch i.Op {
	case api.Mov:
		if i.To.Kind == api.Reg && i.From.Kind == api.Imm {
			return r.moved(i)
		}
		fallthrough
	case api.Add, api.Or, api.Adc, api.Sbb, api.And, api.Sub, api.Xor, api.Cmp:
		if i.From.Kind == api.Mem {
			return r.loaded(i)
		}
		fallthrough
	case api.Test, api.Xchg:
		if i.From.Kind == api.Reg {
			return parts{opcode: r.store.of(i.Size), reg: i.From.R, rm: i.To}
		}
		return r.numbered(i)
	case api.Lea, api.Imul, api.Cmov, api.Movzx, api.Movsx:
		return r.loaded(i)
	case api.Push:
		if i.From.Kind != api.Imm {
			i.To = i.From
		}
		fallthrough
	case api.Pop:
		if i.To.Kind == api.Reg {
			return parts{opcode: r.plus.of(i.Size), within: i.To.R}
		}
		fallthrough
	case api.Shl, api.Shr, api.Sar, api.Call, api.Jmp, api.Jcc:
		if i.From.Kind == api.Imm || i.To.Kind == api.Target {
			return r.numbered(i)
		}
		fallthrough
	default:
		return parts{opcode: r.alone.of(i.Size), reg: r.digit, rm: i.To}
	}
}

func (r row) loaded(i api.Inst) parts {
	return parts{opcode: r.load.of(i.Size), reg: i.To.R, rm: i.From}
}

// moved: a register takes a number of its own size; but of eight bytes four are enough for what they can tell with their sign.
func (r row) moved(i api.Inst) parts {
	if i.Size == 8 && leb.Fits(i.From.N, 32, true) {
		return r.numbered(i)
	}
	return parts{opcode: r.plus.of(i.Size), within: i.To.R, number: field{i.From.N, i.Size}}
}

func (r row) numbered(i api.Inst) parts {
	p := parts{opcode: r.number.of(i.Size), reg: r.digit, rm: i.To, number: field{i.From.N, min(i.Size, 4)}}
	isShort := i.Size != 1 && leb.Fits(signed(i.From.N, i.Size), 8, true)
	if i.To.Kind == api.Target {
		p.rm, p.number.n = api.Operand{}, shown(i.To)
		isShort = i.Short
	}
	if isShort && r.short != 0 {
		p.opcode, p.number.size = r.short, 1
	}
	return p
}

// signed: of four bytes the low 32 bits alone count.
func signed(n, size int) int {
	if size == 4 {
		return int(int32(n))
	}
	return n
}

// hasByteAbove: whether a register of one byte is spl, bpl, sil or dil: their numbers mean others where no REX stands.
func hasByteAbove(i api.Inst) bool {
	read := i.Size
	if i.Op == api.Movzx || i.Op == api.Movsx {
		read = 1
	}
	return i.Size == 1 && isAbove(i.To) || read == 1 && isAbove(i.From)
}

func isAbove(o api.Operand) bool {
	return o.Kind == api.Reg && o.R >= api.Rsp && o.R <= api.Rdi
}
