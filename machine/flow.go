package machine

import "gangway/api"

// pushed: v is stored below the stack's end, which moves there.
func (m *Machine) pushed(s *step, v uint64) {
	top := s.state.R[api.Rsp] - wide
	m.keep(s, top, wide, v)
	m.setRegister(s, api.Rsp, wide, top)
}

// popped: what stands at the stack's end, which moves behind it.
func (m *Machine) popped(s *step) uint64 {
	top := s.state.R[api.Rsp]
	m.setRegister(s, api.Rsp, wide, top+wide)
	return m.load(s, top, wide)
}

func (m *Machine) push(s *step) { m.pushed(s, m.from(s)) }

func (m *Machine) pop(s *step) {
	v := m.popped(s)
	// To's address counts with what rsp is by now.
	s.state.R[api.Rsp] += wide
	m.putTo(s, v)
}

func (m *Machine) leave(s *step) {
	frame := s.state.R[api.Rbp]
	m.setRegister(s, api.Rbp, wide, m.load(s, frame, wide))
	m.setRegister(s, api.Rsp, wide, frame+wide)
}

// aim: where a jump or a call goes.
func (m *Machine) aim(s *step) uint64 {
	if s.inst.To.Kind == api.Target {
		return s.next + uint64(s.inst.To.N)
	}
	return m.to(s)
}

func (m *Machine) call(s *step) {
	m.goTo(s, m.aim(s))
	m.pushed(s, s.next)
}

func (m *Machine) jump(s *step) { m.goTo(s, m.aim(s)) }

func (m *Machine) jumpIf(s *step) {
	if s.holds() {
		m.jump(s)
	}
}

func (m *Machine) goBack(s *step) { m.goTo(s, m.popped(s)) }
