package decode

import "gangway/api"

// What ModRM's r means, beside a register: that SIB follows, or that memory is told from rip. SIB is the first one of a Base alone, the second one of the thread's base.
const (
	sibFollows = 4
	fromRip    = 5
	sibOfBase  = 0x24
	sibOfFs    = 0x25
)

// modRM: its fields, and that they may stand in this row and behind these prefixes.
func (r *reader) modRM(w row) {
	x := r.next()
	r.mod, r.reg, r.r = x>>6, x>>3&7, x&7
	isRegister := r.mod == 3
	insist(!isRegister || w.has(direct))
	insist(!r.fs || r.mod == 0 && r.r == sibFollows)
	// A bit of REX is there only if a register has it.
	insist(!r.has(rexIndex) || !isRegister && r.r == sibFollows)
	insist(!r.has(rexBase) || !r.isFromRip())
	regAbove := r.size == 1 && w.has(rexReg) && isAbove(r.regNumber())
	placeAbove := r.byteAt(w) && isRegister && isAbove(r.registerOf(r.r, rexBase))
	r.settleByte(regAbove || placeAbove)
}

func (r *reader) isFromRip() bool { return r.mod == 0 && r.r == fromRip }

func (r *reader) regNumber() int { return r.registerOf(r.reg, rexReg) }

// place: the r/m operand.
func (r *reader) place() api.Operand {
	if r.mod == 3 {
		return api.Operand{Kind: api.Reg, R: r.registerOf(r.r, rexBase)}
	}
	o := api.Operand{Kind: api.Mem, Base: -1, Index: -1}
	switch {
	case r.isFromRip():
		o.Rip = true
	case r.r != sibFollows:
		o.Base = r.registerOf(r.r, rexBase)
	case r.fs:
		insist(r.next() == sibOfFs)
		o.Fs = true
	default:
		r.sib(&o)
	}
	o.N = r.displacement(o)
	return o
}

func (r *reader) sib(o *api.Operand) {
	x := r.next()
	o.Base = r.registerOf(x&7, rexBase)
	insist(r.mod != 0 || !needsDisplacement(*o))
	index := r.registerOf(x>>3&7, rexIndex)
	if index == api.Rsp {
		insist(x == sibOfBase)
		return
	}
	o.Index, o.Scale = index, 1<<(x>>6)
}

// displacement: one of four bytes may be any, since the linker puts it in; one of one byte is there only if it is needed.
func (r *reader) displacement(o api.Operand) int {
	switch {
	case o.Base < 0 || r.mod == 2:
		return r.number(4)
	case r.mod == 0:
		return 0
	}
	n := r.number(1)
	insist(n != 0 || needsDisplacement(o))
	return n
}

// needsDisplacement: rbp and r13 without one would mean other memory.
func needsDisplacement(o api.Operand) bool { return o.Base&7 == api.Rbp }
