package machine

import (
	"gangway/alu"
	"gangway/api"
)

// Calls of the system, by rax.
const (
	callWrite   = 1
	callExit    = 60
	callExitAll = 231
)

// What a call that fails leaves in rax: numbers below 0.
const (
	badFile    = 1<<64 - 9
	badAddress = 1<<64 - 14
	noSpace    = 1<<64 - 28
	noSuchCall = 1<<64 - 38
)

const r11 = 11

func (m *Machine) systemCall(s *step) {
	m.setRegister(s, api.Rcx, wide, s.next)
	m.setRegister(s, r11, wide, alu.Pack(s.state.Flags))
	switch s.state.R[api.Rax] {
	case callWrite:
		m.setRegister(s, api.Rax, wide, m.write(s))
	case callExit, callExitAll:
		m.exit(s)
	default:
		m.setRegister(s, api.Rax, wide, noSuchCall)
	}
}

// write: what rax becomes.
func (m *Machine) write(s *step) uint64 {
	file, at, count := s.state.R[api.Rdi], s.state.R[api.Rsi], s.state.R[api.Rdx]
	switch {
	case file != 1 && file != 2:
		return badFile
	case count > uint64(api.MaxBytes-len(m.out)):
		return noSpace
	}
	b, e := m.memory.Read(at, int(count))
	if e != api.OK {
		return badAddress
	}
	s.later(func() { m.out = append(m.out, b...) })
	return count
}

func (m *Machine) exit(s *step) {
	code := int(uint8(s.state.R[api.Rdi]))
	s.later(func() { m.code, m.ended = code, true })
}
