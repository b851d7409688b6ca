package machine_test

import (
	"testing"

	"gangway/api"
	"gangway/machine"
	"gangway/memory"
)

func TestP701New(t *testing.T) {
	for _, m := range []*memory.Memory{nil, {}, new(memory.Memory)} {
		for _, s := range []machine.State{{}, wild()} {
			if x, e := machine.New(m, s); x != nil || e != api.ErrArg {
				t.Errorf("New of no memory: %v, %d", x, e)
			}
		}
	}
	for _, m := range []*memory.Memory{memory.New(), world(t)} {
		for _, s := range []machine.State{{}, wild(), {Rip: 1<<64 - 1, Fs: 1<<64 - 1, Flags: every()}} {
			before := m.Copy()
			x := made(t, m, s)
			checkState(t, x, s)
			checkOut(t, x, "")
			checkExit(t, x, 0, false)
			if x.Memory() != m || !memory.Same(before, m) {
				t.Error("not the memory that was handed in")
			}
		}
	}
}

// TestP701OneMemory: it is worked with, not copied: what either does is seen by the other.
func TestP701OneMemory(t *testing.T) {
	m := world(t)
	s := wild()
	s.R[0], s.R[3] = filled, data
	check(t, m.Put(code, bytesOf(t, inst(api.Mov, 8, based(3, 0), reg(0)), inst(api.Mov, 8, reg(0), based(3, 8)))), api.OK)
	x, y := made(t, m, s), made(t, m, s)
	check(t, x.Step(), api.OK)
	checkLoad(t, m, data, 8, filled)
	checkState(t, y, s)
	check(t, m.Store(data+8, 8, 99), api.OK)
	check(t, x.Step(), api.OK)
	if x.State().R[0] != 99 {
		t.Error(shown(x.State()))
	}
	// Code that is put there is what comes next, of both.
	check(t, m.Put(code, bytesOf(t, only(api.Ud2))), api.OK)
	checkNext(t, y, only(api.Ud2), 2, api.OK)
	check(t, m.Unmap(code, 2), api.OK)
	checkNext(t, y, api.Inst{}, 0, api.ErrFault)
	if x.Memory() != m || y.Memory() != m {
		t.Error("another memory")
	}
}

func TestP705StateSet(t *testing.T) {
	x := program(t, wild(), only(api.Nop), only(api.Nop))
	for r := range 16 {
		s := machine.State{Rip: code, Fs: uint64(r), Flags: allFlags()[r]}
		s.R[r] = ^uint64(r)
		check(t, x.Set(s), api.OK)
		checkState(t, x, s)
	}
	for _, f := range allFlags() {
		s := wild()
		s.Flags = f
		check(t, x.Set(s), api.OK)
		checkState(t, x, s)
		check(t, x.Step(), api.OK)
		s.Rip++
		checkState(t, x, s)
	}
	// What was answered is its own.
	s := x.State()
	s.R[0]++
	if x.State() == s {
		t.Error("it is not")
	}
}

// TestP705SetLeaves: what was written, the end and the memory stay.
func TestP705SetLeaves(t *testing.T) {
	x := ending(t)
	checkRun(t, x, 5, 5, api.OK)
	m := x.Memory().Copy()
	check(t, x.Set(machine.State{}), api.OK)
	checkState(t, x, machine.State{})
	checkOut(t, x, string(mark(data)))
	checkExit(t, x, 7, true)
	if !memory.Same(m, x.Memory()) {
		t.Error("the memory is another")
	}
	check(t, x.Step(), api.ErrNone)
}

// TestP705Out: all bytes so far; those that were answered may be changed by whoever has them, and the room behind them.
func TestP705Out(t *testing.T) {
	s := asked(1, 1, data, 3)
	x := program(t, s, only(api.Syscall), only(api.Syscall), only(api.Syscall))
	want := ""
	var old [][]byte
	for k := range 3 {
		check(t, x.Memory().Write(data, []byte{byte('a' + k), byte('A' + k), 0}), api.OK)
		s.Rip = code
		check(t, x.Set(s), api.OK)
		check(t, x.Step(), api.OK)
		want += string([]byte{byte('a' + k), byte('A' + k), 0})
		checkOut(t, x, want)
		b := x.Out()
		for at := range b[:cap(b)] {
			b[:cap(b)][at] = '!'
		}
		checkOut(t, x, want)
		// What stands in the memory by now does not matter, nor what comes later.
		check(t, x.Memory().Write(data, []byte("???")), api.OK)
		checkOut(t, x, want)
		old = append(old, x.Out())
	}
	for k, b := range old {
		if string(b) != want[:3*(k+1)] {
			t.Errorf("%q", b)
		}
	}
}

// TestP1NotMade: each call of a nil Machine, and of one that nobody made.
func TestP1NotMade(t *testing.T) {
	for _, x := range []*machine.Machine{nil, {}, new(machine.Machine)} {
		if i, n, e := x.Next(); i != (api.Inst{}) || n != 0 || e != api.ErrArg {
			t.Error(i, n, e)
		}
		check(t, x.Step(), api.ErrArg)
		for _, steps := range []int{-1, 0, 1, 1 << 62} {
			checkRun(t, x, steps, 0, api.ErrArg)
		}
		check(t, x.Set(wild()), api.ErrArg)
		checkState(t, x, machine.State{})
		checkOut(t, x, "")
		checkExit(t, x, 0, false)
		if x.Memory() != nil {
			t.Error("a memory of nothing")
		}
	}
}

// TestP1NothingPanics: bytes of all kinds at Rip, in states of all kinds, in memory with which all may be done.
func TestP1NothingPanics(t *testing.T) {
	d := dice(7)
	m := memory.New()
	check(t, m.Map(0, 2, rw|memory.X), api.OK)
	check(t, m.Map(memory.Top-page, 1, rw|memory.X), api.OK)
	ends := []uint64{0, 1, 8, page - 1, page, 2*page - 8, 2*page - 1, 2 * page, memory.Top - page, memory.Top - 8, memory.Top - 1, memory.Top, 1 << 63, 1<<64 - 8, 1<<64 - 1}
	for range 20000 {
		s := machine.State{Rip: ends[d.upTo(len(ends))], Fs: ends[d.upTo(len(ends))], Flags: allFlags()[d.upTo(32)]}
		for r := range s.R {
			s.R[r] = ends[d.upTo(len(ends))]
		}
		b := make([]byte, 16)
		for k := range b {
			b[k] = byte(d.upTo(256))
		}
		if d.upTo(2) == 0 {
			b[0] = 0x48
		}
		m.Put(s.Rip, b)
		x := made(t, m, s)
		_, _, next := x.Next()
		n, e := x.Run(3)
		if n < 0 || n > 3 || next != api.OK && (n != 0 || e != next) {
			t.Fatalf("% x: %d, %d, %d", b, next, n, e)
		}
	}
}
