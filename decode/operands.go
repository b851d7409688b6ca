package decode

import "gangway/api"

func registerOperand(n int) api.Operand { return api.Operand{Kind: api.Reg, R: n} }

func numberOperand(n int) api.Operand { return api.Operand{Kind: api.Imm, N: n} }

func alone(r *reader, i *api.Inst) {}

// aloneWide: W is a part of it, not its size.
func aloneWide(r *reader, i *api.Inst) {
	insist(r.size == 8)
	i.Size = 0
}

func stored(r *reader, i *api.Inst) { i.To, i.From = r.place(), registerOperand(r.regNumber()) }

func loaded(r *reader, i *api.Inst) { i.To, i.From = registerOperand(r.regNumber()), r.place() }

func changed(r *reader, i *api.Inst) { i.To = r.place() }

// changedOrReached: what goes through r/m is of eight bytes without W; registers are pushed by another opcode.
func changedOrReached(r *reader, i *api.Inst) {
	if i.Op != api.Inc && i.Op != api.Dec {
		insist(r.size == 4)
		i.Size = 8
	}
	if i.Op == api.Push {
		insist(r.mod != 3)
		i.From = r.place()
		return
	}
	i.To = r.place()
}

func numbered(r *reader, i *api.Inst) {
	i.To = r.place()
	i.From = numberOperand(r.number(min(r.size, 4)))
}

func numberedLong(r *reader, i *api.Inst) {
	i.To = r.place()
	i.From = numberOperand(r.long(4, 1))
}

func numberedShort(r *reader, i *api.Inst) {
	i.To = r.place()
	i.From = numberOperand(r.number(1))
}

// numberedWide: registers of fewer bytes take numbers by another opcode.
func numberedWide(r *reader, i *api.Inst) {
	insist(r.mod != 3 || r.size == 8)
	numbered(r, i)
}

func testedOrChanged(r *reader, i *api.Inst) {
	if i.Op == api.Test {
		numbered(r, i)
		return
	}
	changed(r, i)
}

func shifted(r *reader, i *api.Inst) {
	i.To = r.place()
	n := r.number(1)
	insist(n >= 0 && n < max(8*r.size, 32))
	i.From = numberOperand(n)
}

func shiftedByRcx(r *reader, i *api.Inst) { i.To, i.From = r.place(), registerOperand(api.Rcx) }

func (r *reader) withinNumber() int { return r.registerOf(r.opcode&low, rexBase) }

func movedByte(r *reader, i *api.Inst) {
	r.settleByte(isAbove(r.withinNumber()))
	moved(r, i)
}

// moved: of eight bytes only what four can't tell.
func moved(r *reader, i *api.Inst) {
	i.To = registerOperand(r.withinNumber())
	if r.size == 8 {
		i.From = numberOperand(r.long(8, 4))
		return
	}
	i.From = numberOperand(r.number(r.size))
}

func pushedRegister(r *reader, i *api.Inst) { i.From = registerOperand(r.withinNumber()) }

func poppedRegister(r *reader, i *api.Inst) { i.To = registerOperand(r.withinNumber()) }

func pushedLong(r *reader, i *api.Inst) { i.From = numberOperand(r.long(4, 1)) }

func pushedShort(r *reader, i *api.Inst) { i.From = numberOperand(r.number(1)) }

func jumped(r *reader, i *api.Inst) { i.To = api.Operand{Kind: api.Target, N: r.number(4)} }

func jumpedShort(r *reader, i *api.Inst) {
	i.To = api.Operand{Kind: api.Target, N: r.number(1)}
	i.Short = true
}
