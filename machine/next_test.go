package machine_test

import (
	"testing"

	"gangway/api"
	"gangway/machine"
	"gangway/memory"
)

// checkNext: what comes; asking changes nothing.
func checkNext(t *testing.T, x *machine.Machine, want api.Inst, n int, e api.Errno) {
	t.Helper()
	s, m := x.State(), x.Memory().Copy()
	for range 2 {
		if i, gotN, gotE := x.Next(); i != want || gotN != n || gotE != e {
			t.Errorf("Next: %+v, %d, %d; want %+v, %d, %d", i, gotN, gotE, want, n, e)
		}
	}
	checkState(t, x, s)
	if !memory.Same(m, x.Memory()) {
		t.Error("the memory is another")
	}
}

// notNext: there is none, and neither Step nor Run does anything.
func notNext(t *testing.T, x *machine.Machine, e api.Errno) {
	t.Helper()
	checkNext(t, x, api.Inst{}, 0, e)
	fails(t, x, e)
}

func TestP702Next(t *testing.T) {
	for _, i := range []api.Inst{
		only(api.Nop), only(api.Ret), only(api.Syscall), only(api.Ud2), push(reg(0)),
		inst(api.Mov, 8, reg(0), imm(0x123456789abcdef0)), inst(api.Mov, 8, indexed(12, 13, 8, 1<<30), imm(-1<<31)),
		inst(api.Mov, 4, fs(-8), imm(7)), inst(api.Mov, 8, reg(0), based(3, 8)), one(api.Jmp, target(-2)),
	} {
		b := bytesOf(t, i)
		checkNext(t, with(t, wild(), b), i, len(b), api.OK)
		// As the last one of what may be executed.
		s := wild()
		s.Rip = code + 2*page - uint64(len(b))
		checkNext(t, with(t, s, b), i, len(b), api.OK)
		// Over the end of a page.
		for k := 1; k < len(b); k++ {
			s.Rip = code + page - uint64(k)
			checkNext(t, with(t, s, b), i, len(b), api.OK)
		}
	}
}

// TestP702Long: a displacement that is written in 4 bytes counts in n.
func TestP702Long(t *testing.T) {
	x := with(t, wild(), []byte{72, 139, 128, 8, 0, 0, 0})
	checkNext(t, x, inst(api.Mov, 8, reg(0), based(0, 8)), 7, api.OK)
	s := wild()
	s.R[0] = data
	check(t, x.Set(s), api.OK)
	check(t, x.Step(), api.OK)
	s.R[0], s.Rip = marks(data+8, 8), code+7
	checkState(t, x, s)
}

// TestP702NotThere: nothing may be executed at Rip.
func TestP702NotThere(t *testing.T) {
	for _, at := range []uint64{0, 1, code - 1, code + 2*page, data, fixed, blind, stack, nowhere, memory.Top - 1, memory.Top, 1 << 63, 1<<64 - 1} {
		s := wild()
		s.Rip = at
		notNext(t, made(t, world(t), s), api.ErrFault)
	}
}

// TestP702MemoryGone: whichever error the memory answers, it is ErrFault.
func TestP702MemoryGone(t *testing.T) {
	m := world(t)
	x := made(t, m, wild())
	*m = memory.Memory{}
	if i, n, e := x.Next(); i != (api.Inst{}) || n != 0 || e != api.ErrFault {
		t.Error(i, n, e)
	}
	check(t, x.Step(), api.ErrFault)
	checkState(t, x, wild())
}

// TestP702CutOff: an instruction whose end may not be executed, each beginning of it.
func TestP702CutOff(t *testing.T) {
	for _, i := range []api.Inst{only(api.Syscall), only(api.Ud2), only(api.Cqo), inst(api.Mov, 8, reg(0), imm(0x123456789abcdef0)), inst(api.Mov, 8, indexed(12, 13, 8, 1<<30), imm(-1<<31)), one(api.Jmp, target(-2))} {
		b := bytesOf(t, i)
		for k := 1; k < len(b); k++ {
			s := wild()
			s.Rip = code + 2*page - uint64(k)
			x := with(t, s, b[:k])
			notNext(t, x, api.ErrFault)
			// A page behind it that may be read and written does not help; one that may be executed does.
			check(t, x.Memory().Map(code+2*page, 1, rw), api.OK)
			check(t, x.Memory().Put(code+2*page, b[k:]), api.OK)
			notNext(t, x, api.ErrFault)
			check(t, x.Memory().Protect(code+2*page, 1, memory.X), api.OK)
			checkNext(t, x, i, len(b), api.OK)
		}
	}
	// At the last of all addresses there are.
	m := memory.New()
	check(t, m.Map(memory.Top-page, 1, memory.X), api.OK)
	check(t, m.Put(memory.Top-2, []byte{0x90, 0x48}), api.OK)
	x := made(t, m, machine.State{Rip: memory.Top - 2})
	checkRun(t, x, 10, 1, api.ErrFault)
	notNext(t, x, api.ErrFault)
}

// TestP702NoForm: bytes that are none, whatever stands behind them, and whether they are cut off or not.
func TestP702NoForm(t *testing.T) {
	for _, b := range []string{"\x06", "\x40\x90", "\x48\x81\xc0\x05\x00\x00\x00", "\x48\x8b\x04\x25\x00\x00\x00\x00", "\xf4", "\xcc", "\x48\x06"} {
		notNext(t, with(t, wild(), []byte(b)), api.ErrForm)
		s := wild()
		s.Rip = code + 2*page - uint64(len(b))
		notNext(t, with(t, s, []byte(b)), api.ErrForm)
	}
	s := wild()
	s.Rip = code + 2*page - 15
	notNext(t, with(t, s, []byte(repeated(0x48, 15))), api.ErrForm)
}

// TestP702Ended: ErrNone comes ahead of all else, wherever Rip is.
func TestP702Ended(t *testing.T) {
	x := program(t, asked(60, 3, 0, 0), only(api.Syscall), only(api.Nop))
	checkNext(t, x, only(api.Syscall), 2, api.OK)
	check(t, x.Step(), api.OK)
	for _, at := range []uint64{code, code + 2, nowhere, 0, 1<<64 - 1} {
		s := wild()
		s.Rip = at
		check(t, x.Set(s), api.OK)
		checkNext(t, x, api.Inst{}, 0, api.ErrNone)
		unchanged(t, x, func() { check(t, x.Step(), api.ErrNone) })
		checkState(t, x, s)
		checkExit(t, x, 3, true)
	}
}

// TestP703Ud2: it comes, but can't be done.
func TestP703Ud2(t *testing.T) {
	x := program(t, wild(), only(api.Nop), only(api.Ud2), only(api.Nop))
	check(t, x.Step(), api.OK)
	checkNext(t, x, only(api.Ud2), 2, api.OK)
	fails(t, x, api.ErrForm)
	if x.State().Rip != code+1 {
		t.Error(shown(x.State()))
	}
}

// TestP703OverTheEnd: an instruction that stands on two pages is done as any other.
func TestP703OverTheEnd(t *testing.T) {
	b := bytesOf(t, inst(api.Mov, 8, reg(0), imm(0x123456789abcdef0)), one(api.Call, target(3)))
	for k := range len(b) {
		s := wild()
		s.Rip = code + page - uint64(k)
		x := with(t, s, b)
		checkRun(t, x, 2, 2, api.ErrBudget)
		end := s.Rip + uint64(len(b))
		s.R[0], s.R[4], s.Rip = 0x123456789abcdef0, top-8, end+3
		checkState(t, x, s)
		checkLoad(t, x.Memory(), top-8, 8, end)
	}
}

// TestP703Faults: a load or a store that may not be, of each kind of instruction: nothing changes, registers, flags and Rip neither.
func TestP703Faults(t *testing.T) {
	ways := func(at api.Operand) (reads, changes, writes []api.Inst) {
		for _, size := range []int{1, 4, 8} {
			for op := api.Add; op <= api.Xor; op++ {
				reads = append(reads, inst(op, size, reg(0), at))
				changes = append(changes, inst(op, size, at, reg(0)), inst(op, size, at, imm(1)))
			}
			reads = append(reads, inst(api.Mov, size, reg(0), at), inst(api.Cmp, size, reg(0), at), inst(api.Cmp, size, at, reg(0)), inst(api.Cmp, size, at, imm(1)), inst(api.Test, size, at, reg(0)), inst(api.Test, size, at, imm(1)))
			for op := api.Neg; op <= api.Dec; op++ {
				changes = append(changes, inst(op, size, at, api.Operand{}))
			}
			for op := api.Shl; op <= api.Sar; op++ {
				changes = append(changes, inst(op, size, at, reg(1)), inst(op, size, at, imm(1)))
			}
			writes = append(writes, inst(api.Mov, size, at, reg(0)), inst(api.Mov, size, at, imm(1)))
			if size > 1 {
				reads = append(reads, inst(api.Imul, size, reg(0), at), inst(api.Movzx, size, reg(0), at), inst(api.Movsx, size, reg(0), at), conditional(api.Cmov, size, 4, reg(0), at), conditional(api.Cmov, size, 5, reg(0), at))
				changes = append(changes, inst(api.Xchg, size, at, reg(0)))
			}
		}
		reads = append(reads, push(at), one(api.Call, at), one(api.Jmp, at))
		writes = append(writes, one(api.Pop, at), conditional(api.Setcc, 1, 4, at, api.Operand{}))
		return reads, changes, writes
	}
	reads, changes, writes := ways(based(3, 0))
	held := func(at uint64, list []api.Inst, want api.Errno) {
		t.Helper()
		for _, i := range list {
			s := wild()
			s.R[3], s.Flags = at, api.Flags{C: true, Z: true}
			if x := program(t, s, i); want == api.OK {
				check(t, x.Step(), want)
			} else {
				fails(t, x, want)
			}
		}
	}
	for _, at := range []uint64{nowhere, code, 0, memory.Top, 1<<64 - 1} {
		held(at, reads, api.ErrFault)
		held(at, changes, api.ErrFault)
		held(at, writes, api.ErrFault)
	}
	held(data, reads, api.OK)
	held(data, changes, api.OK)
	held(data, writes, api.OK)
	held(fixed, reads, api.OK)
	held(fixed, changes, api.ErrFault)
	held(fixed, writes, api.ErrFault)
	held(blind, reads, api.ErrFault)
	held(blind, changes, api.ErrFault)
	held(blind, writes, api.OK)
}

// TestP703FaultOverPages: of bytes on two pages none is written, if one may not be.
func TestP703FaultOverPages(t *testing.T) {
	for k := uint64(1); k < 8; k++ {
		s := wild()
		s.R[3] = fixed - k
		for _, i := range []api.Inst{inst(api.Mov, 8, based(3, 0), reg(0)), inst(api.Add, 8, based(3, 0), reg(0)), inst(api.Xchg, 8, based(3, 0), reg(0)), one(api.Pop, based(3, 0))} {
			fails(t, program(t, s, i), api.ErrFault)
		}
		s.R[3] = stack - k
		fails(t, program(t, s, inst(api.Mov, 8, reg(0), based(3, 0))), api.ErrFault)
	}
}
