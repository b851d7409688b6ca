package machine_test

import (
	"testing"

	"gangway/alu"
	"gangway/api"
	"gangway/machine"
	"gangway/memory"
)

// asked: a state with a call of the system, by rax, rdi, rsi and rdx.
func asked(rax, rdi, rsi, rdx uint64) machine.State {
	s := wild()
	s.R[api.Rax], s.R[api.Rdi], s.R[api.Rsi], s.R[api.Rdx] = rax, rdi, rsi, rdx
	return s
}

// checkCall: one Syscall: what rax becomes, what it writes; rcx, r11 and Rip, and nothing else.
func checkCall(t *testing.T, x *machine.Machine, rax uint64, wrote string) {
	t.Helper()
	before, m := string(x.Out()), x.Memory().Copy()
	want := x.State()
	want.R[api.Rcx], want.R[11] = want.Rip+2, alu.Pack(want.Flags)
	want.Rip += 2
	want.R[api.Rax] = rax
	check(t, x.Step(), api.OK)
	checkState(t, x, want)
	checkOut(t, x, before+wrote)
	if !memory.Same(m, x.Memory()) {
		t.Error("the memory is another")
	}
}

// below: a number below 0.
func below(n uint64) uint64 { return -n }

// hello: a text at data.
func hello(t *testing.T, s machine.State) *machine.Machine {
	t.Helper()
	x := program(t, s, only(api.Syscall), only(api.Syscall), only(api.Syscall))
	check(t, x.Memory().Write(data, []byte("hello")), api.OK)
	return x
}

func TestP703SyscallWrite(t *testing.T) {
	for _, file := range []uint64{1, 2} {
		for n := range 6 {
			checkCall(t, hello(t, asked(1, file, data, uint64(n))), uint64(n), "hello"[:n])
		}
		x := hello(t, asked(1, file, data+1, 4))
		checkCall(t, x, 4, "ello")
		s := x.State()
		s.R[0], s.R[2], s.R[7] = 1, 1, 3-file
		check(t, x.Set(s), api.OK)
		checkCall(t, x, 1, "e")
		// rax is 1 by now: it writes once more.
		checkCall(t, x, 1, "e")
		checkExit(t, x, 0, false)
	}
}

// TestP703SyscallOrder: each answer, and which one comes first where several would.
func TestP703SyscallOrder(t *testing.T) {
	const most = api.MaxBytes
	for _, c := range []struct {
		rdi, rsi, rdx, want uint64
	}{
		{0, data, 2, below(9)},
		{3, data, 2, below(9)},
		{1<<32 + 1, data, 2, below(9)},
		{1<<64 - 1, data, 2, below(9)},
		{0, data, 0, below(9)},
		{0, nowhere, most + 1, below(9)},
		{3, nowhere, 1<<64 - 1, below(9)},
		{1, data, most + 1, below(28)},
		{2, nowhere, most + 1, below(28)},
		{1, nowhere, 1 << 32, below(28)},
		{1, nowhere, 1 << 63, below(28)},
		{1, data, 1<<64 - 1, below(28)},
		{1, nowhere, most, below(14)},
		{1, nowhere, 1, below(14)},
		{1, data, most, below(14)},
		{1, fixed + page - 1, 2, below(14)},
		{2, blind, 1, below(14)},
		{1, code, 1, below(14)},
		{1, 1<<64 - 1, 2, below(14)},
		{1, nowhere, 0, 0},
		{2, 1<<64 - 1, 0, 0},
	} {
		for _, f := range []api.Flags{{}, every(), {C: true}, {P: true}, {Z: true}, {S: true}, {O: true}} {
			s := asked(1, c.rdi, c.rsi, c.rdx)
			s.Flags = f
			checkCall(t, program(t, s, only(api.Syscall)), c.want, "")
		}
	}
}

func TestP703SyscallNone(t *testing.T) {
	for _, rax := range []uint64{0, 2, 3, 59, 61, 230, 232, 255, 256 + 1, 256 + 60, 1<<32 + 1, 1<<32 + 60, 1<<32 + 231, 1 << 63, below(1), below(38)} {
		x := hello(t, asked(rax, 1, data, 2))
		checkCall(t, x, below(38), "")
		checkExit(t, x, 0, false)
	}
}

// TestP703SyscallExit: rax stays, the code is rdi mod 256; then there is nothing to come.
func TestP703SyscallExit(t *testing.T) {
	for _, rax := range []uint64{60, 231} {
		for _, c := range []struct {
			rdi  uint64
			code int
		}{{0, 0}, {7, 7}, {255, 255}, {256, 0}, {256 + 7, 7}, {1<<64 - 1, 255}, {1 << 63, 0}} {
			s := asked(rax, c.rdi, 0, 0)
			s.Flags = every()
			x := program(t, s, only(api.Syscall), only(api.Nop))
			checkExit(t, x, 0, false)
			checkCall(t, x, rax, "")
			checkExit(t, x, c.code, true)
			unchanged(t, x, func() {
				check(t, x.Step(), api.ErrNone)
				checkRun(t, x, 5, 0, api.OK)
			})
		}
	}
}

// TestP703SyscallRegisters: rcx tells where it goes on, r11 the flags, of which none changes.
func TestP703SyscallRegisters(t *testing.T) {
	s := asked(1, 1, data, 5)
	s.R[api.Rcx], s.R[11] = 1, 2
	for _, f := range allFlags() {
		s.Flags = f
		x := hello(t, s)
		checkCall(t, x, 5, "hello")
		if got := x.State(); alu.Unpack(got.R[11]) != f || got.Flags != f || got.R[api.Rcx] != code+2 {
			t.Error(shown(got))
		}
	}
}

// TestP703SyscallInAll: MaxBytes may be written in all, in one piece or in several, and nothing beyond.
func TestP703SyscallInAll(t *testing.T) {
	const most, many = api.MaxBytes, 0x1000000
	m := world(t)
	check(t, m.Map(many, most/page, memory.R), api.OK)
	text := make([]byte, most)
	for k := range text {
		text[k] = mark(uint64(k))
	}
	check(t, m.Put(many, text), api.OK)
	check(t, m.Put(code, bytesOf(t, only(api.Syscall))), api.OK)
	for _, pieces := range [][]uint64{{most}, {most - 1, 1}, {1, most - 1}, {most / 2, 0, most / 4, most / 4}} {
		x := made(t, m, machine.State{Rip: code})
		at := uint64(0)
		call := func(n, want uint64, wrote string) {
			t.Helper()
			check(t, x.Set(asked(1, 1, many+at, n)), api.OK)
			checkCall(t, x, want, wrote)
		}
		for _, n := range pieces {
			call(most-at+1, below(28), "")
			call(n, n, string(text[at:at+n]))
			at += n
		}
		at = 0
		call(1, below(28), "")
		call(1<<64-1, below(28), "")
		call(0, 0, "")
		checkOut(t, x, string(text))
	}
}
