package machine

import (
	"gangway/alu"
	"gangway/api"
)

// step: an instruction under way. What it reads is read at once, from the state in which its operands count; what it changes waits till nothing can fail any more.
type step struct {
	inst    api.Inst
	next    uint64
	state   State
	failed  api.Errno
	store   func() api.Errno
	changes []func()
}

// later: a change that can't fail.
func (s *step) later(change func()) { s.changes = append(s.changes, change) }

// finish: puts the changes in, one behind the other. The store comes first, since it is the one that may fail; no instruction has two.
func (s *step) finish() api.Errno {
	if s.failed == api.OK && s.store != nil && s.store() != api.OK {
		s.failed = api.ErrFault
	}
	if s.failed != api.OK {
		return s.failed
	}
	for _, change := range s.changes {
		change()
	}
	return api.OK
}

// holds: the instruction's condition.
func (s *step) holds() bool {
	is, _ := alu.Cond(s.inst.Cond, s.state.Flags)
	return is
}

// address: of an operand in memory.
func (s *step) address(o api.Operand) uint64 {
	at := uint64(o.N)
	if o.Base >= 0 {
		at += s.state.R[o.Base]
	}
	if o.Index >= 0 {
		at += uint64(o.Scale) * s.state.R[o.Index]
	}
	if o.Rip {
		at += s.next
	}
	if o.Fs {
		at += s.state.Fs
	}
	return at
}

// value: of an operand, its low bytes alone.
func (m *Machine) value(s *step, o api.Operand, size int) uint64 {
	v := uint64(o.N)
	switch o.Kind {
	case api.Reg:
		v = s.state.R[o.R]
	case api.Mem:
		v = m.load(s, s.address(o), size)
	}
	v, _ = alu.Trim(v, size)
	return v
}

// to, from: the values of both operands, of the instruction's size.
func (m *Machine) to(s *step) uint64 { return m.value(s, s.inst.To, s.inst.Size) }

func (m *Machine) from(s *step) uint64 { return m.value(s, s.inst.From, s.inst.Size) }

// load: 0, where it may not be; the step has failed then.
func (m *Machine) load(s *step, at uint64, size int) uint64 {
	v, e := m.memory.Load(at, size)
	if e != api.OK {
		s.failed = api.ErrFault
	}
	return v
}

// The functions below put a change of the step into its list.

func (m *Machine) keep(s *step, at uint64, size int, v uint64) {
	s.store = func() api.Errno { return m.memory.Store(at, size, v) }
}

func (m *Machine) setRegister(s *step, r, size int, v uint64) {
	s.later(func() { m.state.R[r] = written(m.state.R[r], v, size) })
}

// written: a register that was old, with v written to it: one byte leaves the others, four make them 0.
func written(old, v uint64, size int) uint64 {
	v, _ = alu.Trim(v, size)
	if size == 1 {
		return old&^0xff | v
	}
	return v
}

// put: an operand becomes v.
func (m *Machine) put(s *step, o api.Operand, v uint64) {
	if o.Kind == api.Reg {
		m.setRegister(s, o.R, s.inst.Size, v)
		return
	}
	m.keep(s, s.address(o), s.inst.Size, v)
}

func (m *Machine) putTo(s *step, v uint64) { m.put(s, s.inst.To, v) }

func (m *Machine) setFlags(s *step, f api.Flags) {
	s.later(func() { m.state.Flags = f })
}

func (m *Machine) goTo(s *step, at uint64) {
	s.later(func() { m.state.Rip = at })
}
