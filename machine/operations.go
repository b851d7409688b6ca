package machine

import (
	"gangway/alu"
	"gangway/api"
)

// wide: the bytes of an address, and of what stands on the stack.
const wide = 8

// operations: what each op does, by its number. Where an instruction goes on behind its end is there before.
func operations() [api.LastOp + 1]func(*Machine, *step) {
	return [api.LastOp + 1]func(*Machine, *step){
		api.Mov:     (*Machine).move,
		api.Lea:     (*Machine).locate,
		api.Add:     (*Machine).add,
		api.Or:      (*Machine).logic,
		api.Adc:     (*Machine).addCarry,
		api.Sbb:     (*Machine).subtractBorrow,
		api.And:     (*Machine).logic,
		api.Sub:     (*Machine).subtract,
		api.Xor:     (*Machine).logic,
		api.Cmp:     (*Machine).compare,
		api.Test:    (*Machine).test,
		api.Imul:    (*Machine).multiply,
		api.Neg:     (*Machine).single,
		api.Not:     (*Machine).single,
		api.Inc:     (*Machine).single,
		api.Dec:     (*Machine).single,
		api.Shl:     (*Machine).shift,
		api.Shr:     (*Machine).shift,
		api.Sar:     (*Machine).shift,
		api.Push:    (*Machine).push,
		api.Pop:     (*Machine).pop,
		api.Call:    (*Machine).call,
		api.Jmp:     (*Machine).jump,
		api.Jcc:     (*Machine).jumpIf,
		api.Ret:     (*Machine).goBack,
		api.Leave:   (*Machine).leave,
		api.Setcc:   (*Machine).setIf,
		api.Cmov:    (*Machine).moveIf,
		api.Movzx:   (*Machine).moveByte,
		api.Movsx:   (*Machine).moveSigned,
		api.Xchg:    (*Machine).exchange,
		api.Cqo:     (*Machine).spreadSign,
		api.Nop:     (*Machine).rest,
		api.Ud2:     (*Machine).refuse,
		api.Syscall: (*Machine).systemCall,
	}
}

func (m *Machine) rest(s *step) {}

func (m *Machine) refuse(s *step) { s.failed = api.ErrForm }

func (m *Machine) move(s *step) { m.putTo(s, m.from(s)) }

func (m *Machine) locate(s *step) { m.putTo(s, s.address(s.inst.From)) }

// result: To becomes what alu answered, and so do the flags.
func (m *Machine) result(s *step, v uint64, f api.Flags) {
	m.putTo(s, v)
	m.setFlags(s, f)
}

func (m *Machine) add(s *step) {
	v, f, _ := alu.Add(m.to(s), m.from(s), false, s.inst.Size)
	m.result(s, v, f)
}

func (m *Machine) addCarry(s *step) {
	v, f, _ := alu.Add(m.to(s), m.from(s), s.state.Flags.C, s.inst.Size)
	m.result(s, v, f)
}

func (m *Machine) subtract(s *step) {
	v, f, _ := alu.Sub(m.to(s), m.from(s), false, s.inst.Size)
	m.result(s, v, f)
}

func (m *Machine) subtractBorrow(s *step) {
	v, f, _ := alu.Sub(m.to(s), m.from(s), s.state.Flags.C, s.inst.Size)
	m.result(s, v, f)
}

func (m *Machine) logic(s *step) {
	v, f, _ := alu.Logic(s.inst.Op, m.to(s), m.from(s), s.inst.Size)
	m.result(s, v, f)
}

func (m *Machine) compare(s *step) {
	_, f, _ := alu.Sub(m.to(s), m.from(s), false, s.inst.Size)
	m.setFlags(s, f)
}

func (m *Machine) test(s *step) {
	_, f, _ := alu.Logic(api.Test, m.to(s), m.from(s), s.inst.Size)
	m.setFlags(s, f)
}

func (m *Machine) multiply(s *step) {
	v, f, _ := alu.Mul(m.to(s), m.from(s), s.inst.Size)
	m.result(s, v, f)
}

func (m *Machine) single(s *step) {
	v, f, _ := alu.One(s.inst.Op, m.to(s), s.state.Flags, s.inst.Size)
	m.result(s, v, f)
}

func (m *Machine) shift(s *step) {
	count := int(uint8(m.from(s)))
	v, f, _ := alu.Shift(s.inst.Op, m.to(s), count, s.state.Flags, s.inst.Size)
	m.result(s, v, f)
}

func (m *Machine) setIf(s *step) {
	v := uint64(0)
	if s.holds() {
		v = 1
	}
	m.putTo(s, v)
}

// moveIf: From is read whether the condition holds or not, and To is written in its size either way.
func (m *Machine) moveIf(s *step) {
	v, other := m.to(s), m.from(s)
	if s.holds() {
		v = other
	}
	m.putTo(s, v)
}

func (m *Machine) moveByte(s *step) { m.putTo(s, m.value(s, s.inst.From, 1)) }

func (m *Machine) moveSigned(s *step) {
	v, _ := alu.Extend(m.value(s, s.inst.From, 1), 1)
	m.putTo(s, v)
}

func (m *Machine) exchange(s *step) {
	to, from := m.to(s), m.from(s)
	m.putTo(s, from)
	m.put(s, s.inst.From, to)
}

func (m *Machine) spreadSign(s *step) {
	m.setRegister(s, api.Rdx, wide, uint64(int64(s.state.R[api.Rax])>>63))
}
