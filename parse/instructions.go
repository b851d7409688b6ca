package parse

import (
	"gangway/api"
	"gangway/forms"
	"gangway/lexer"
)

// operand: of a register its size as it is written, too: which one it must be is known when all operands are read.
type operand struct {
	api.Operand
	size int
}

func (p *parser) instruction(name string) Stmt {
	op, size, cond, ok := forms.Find(name)
	insist(ok)
	short := p.short(op)
	from, to := p.operands(op)
	insist(p.ended())
	i := api.Inst{Op: op, Size: size, Cond: cond, To: to.Operand, From: from.Operand, Short: short}
	insist(from.Kind != api.Reg || isFrom(i, from.size))
	insist(to.Kind != api.Reg || to.size == size)
	if forms.Check(i) != api.OK {
		panic(api.ErrForm)
	}
	return Stmt{Kind: Code, Inst: i}
}

// short: the word alone is the name of where the jump goes.
func (p *parser) short(op int) bool {
	t := p.peek(0)
	if op != api.Jmp && op != api.Jcc || t.Kind != lexer.Name || t.Text != "short" || p.peek(1).Kind == lexer.End {
		return false
	}
	p.at++
	return true
}

func (p *parser) operands(op int) (from, to operand) {
	if p.ended() {
		return operand{}, operand{}
	}
	first := p.operand(op)
	switch {
	case p.takes(","):
		return first, p.operand(op)
	case op == api.Push:
		return first, operand{}
	}
	return operand{}, first
}

// isFrom: whether From may be a register that is written with that size. (Push, Pop, Call and Jmp are of 8 bytes, so these need no case.)
func isFrom(i api.Inst, size int) bool {
	switch i.Op {
	case api.Movzx, api.Movsx:
		return size == 1
	case api.Shl, api.Shr, api.Sar:
		return size == 1 && i.From.R == api.Rcx
	}
	return size == i.Size
}

func (p *parser) operand(op int) operand {
	switch op {
	case api.Call, api.Jmp:
		if p.takes("*") {
			// A $ begins an operand, though none for here: so it is the first thing that is wrong, not a displacement that is no expression.
			insist(!isSign(p.peek(0), "$"))
			return p.place()
		}
		return operand{Operand: p.target()}
	case api.Jcc:
		return operand{Operand: p.target()}
	}
	if p.takes("$") {
		return operand{Operand: api.Operand{Kind: api.Imm, N: p.number()}}
	}
	return p.place()
}

// place: a register or memory.
func (p *parser) place() operand {
	if p.peek(0).Kind == lexer.Register && !p.isFs() {
		r, size := p.register()
		return operand{Operand: api.Operand{Kind: api.Reg, R: r}, size: size}
	}
	return operand{Operand: p.memory()}
}

func (p *parser) register() (r, size int) {
	r, size, ok := forms.Number(p.token(lexer.Register))
	insist(ok)
	return r, size
}

func isRegister(t lexer.Token, text string) bool { return t.Kind == lexer.Register && t.Text == text }

func (p *parser) isFs() bool { return isRegister(p.peek(0), "fs") && isSign(p.peek(1), ":") }

// opens: whether a bracket with registers begins; any other one is an expression's.
func (p *parser) opens() bool {
	return isSign(p.peek(0), "(") && p.peek(1).Kind == lexer.Register
}

func (p *parser) memory() api.Operand {
	o := api.Operand{Kind: api.Mem, Base: -1, Index: -1}
	if p.isFs() {
		p.at += 2
		o.Fs = true
		o.Name, o.Mod, o.N = p.displacement()
		return o
	}
	if !p.opens() {
		o.Name, o.Mod, o.N = p.displacement()
	}
	p.need("(")
	if isRegister(p.peek(0), "rip") {
		p.at++
		o.Rip = true
	} else {
		o.Base, o.Index, o.Scale = p.bases()
	}
	p.need(")")
	return o
}

// bases: what stands in a bracket; without an index -1 and 0.
func (p *parser) bases() (base, index, scale int) {
	base = p.wide()
	if !p.takes(",") {
		return base, -1, 0
	}
	index = p.wide()
	p.need(",")
	scale = p.number()
	insist(scale == 1 || scale == 2 || scale == 4 || scale == 8)
	return base, index, scale
}

func (p *parser) displacement() (name string, mod, n int) {
	if p.peek(0).Kind == lexer.Name && isSign(p.peek(1), "@") {
		name = p.name()
		mod = p.marked(mods())
		if p.isSigned() {
			n = p.number()
		}
		return name, mod, n
	}
	v := p.expression()
	insist(v.Minus == "")
	return v.Plus, api.Plain, v.N
}

// target: a point is the place behind the jump, where a number follows it; else a name as any other.
func (p *parser) target() api.Operand {
	o := api.Operand{Kind: api.Target, Name: p.name()}
	switch {
	case o.Name == "." && p.isSigned():
		o.Name, o.N = "", p.number()
	case isSign(p.peek(0), "@"):
		o.Mod = p.marked(words{{"plt", api.Plt}})
	}
	return o
}
