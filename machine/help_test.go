package machine_test

import (
	"bytes"
	"fmt"
	"math"
	"testing"

	"gangway/api"
	"gangway/encode"
	"gangway/forms"
	"gangway/machine"
	"gangway/memory"
)

// Where things are in the memory of the tests: two pages of code, that may be executed alone; two of data, and behind them one that may only be read; one that may only be written; none; the stack's one.
const (
	page    = api.PageSize
	code    = 0x1000
	data    = 0x10000
	fixed   = data + 2*page
	blind   = 0x14000
	nowhere = 0x20000
	stack   = 0x40000
	rw      = memory.R | memory.W
)

// world: such a memory, with bytes that tell their places.
func world(t *testing.T) *memory.Memory {
	t.Helper()
	m := memory.New()
	for _, x := range []struct {
		at         uint64
		pages, may int
	}{{code, 2, memory.X}, {data, 2, rw}, {fixed, 1, memory.R}, {blind, 1, memory.W}, {stack, 1, rw}} {
		b := make([]byte, x.pages*page)
		for k := range b {
			b[k] = mark(x.at + uint64(k))
		}
		if m.Map(x.at, x.pages, x.may) != api.OK || m.Put(x.at, b) != api.OK {
			t.Fatal("no memory")
		}
	}
	return m
}

// mark: never 0, and not the same some bytes further.
func mark(at uint64) byte { return byte(1 + (at+7*(at>>8))%255) }

// marks: so many of them as a number.
func marks(at uint64, size int) uint64 {
	v := uint64(0)
	for k := range size {
		v |= uint64(mark(at+uint64(k))) << (8 * k)
	}
	return v
}

// wild: registers that are all unlike, none of them an address that is there but the stack's.
func wild() machine.State {
	s := machine.State{Rip: code, Fs: data + 0x800}
	for r := range s.R {
		s.R[r] = 0xf123456789abcdef + uint64(r)*0x0102030405060708
	}
	s.R[api.Rsp] = stack + 0x800
	return s
}

func reg(r int) api.Operand { return api.Operand{Kind: api.Reg, R: r} }

func imm(n int) api.Operand { return api.Operand{Kind: api.Imm, N: n} }

func target(n int) api.Operand { return api.Operand{Kind: api.Target, N: n} }

func based(base, n int) api.Operand {
	return api.Operand{Kind: api.Mem, Base: base, Index: -1, N: n}
}

func indexed(base, index, scale, n int) api.Operand {
	return api.Operand{Kind: api.Mem, Base: base, Index: index, Scale: scale, N: n}
}

func rip(n int) api.Operand {
	return api.Operand{Kind: api.Mem, Base: -1, Index: -1, Rip: true, N: n}
}

func fs(n int) api.Operand {
	return api.Operand{Kind: api.Mem, Base: -1, Index: -1, Fs: true, N: n}
}

func inst(op, size int, to, from api.Operand) api.Inst {
	return api.Inst{Op: op, Size: size, To: to, From: from}
}

func only(op int) api.Inst { return api.Inst{Op: op} }

func push(from api.Operand) api.Inst { return inst(api.Push, 8, api.Operand{}, from) }

func one(op int, to api.Operand) api.Inst { return inst(op, 8, to, api.Operand{}) }

func conditional(op, size, cond int, to, from api.Operand) api.Inst {
	return api.Inst{Op: op, Size: size, Cond: cond, To: to, From: from}
}

// bytesOf: of instructions, one behind the other.
func bytesOf(t *testing.T, list ...api.Inst) []byte {
	t.Helper()
	var all []byte
	for _, i := range list {
		b, _, e := encode.Bytes(i)
		if e != api.OK {
			t.Fatalf("%+v has no bytes", i)
		}
		all = append(all, b...)
	}
	return all
}

func textOf(i api.Inst) string {
	s, _ := forms.Text(i)
	return s
}

// made: a Machine with that memory and state, or the test ends.
func made(t *testing.T, m *memory.Memory, s machine.State) *machine.Machine {
	t.Helper()
	x, e := machine.New(m, s)
	if x == nil || e != api.OK {
		t.Fatalf("New: %d", e)
	}
	return x
}

// with: a Machine in the world, with these bytes at its Rip.
func with(t *testing.T, s machine.State, b []byte) *machine.Machine {
	t.Helper()
	m := world(t)
	check(t, m.Put(s.Rip, b), api.OK)
	return made(t, m, s)
}

// program: the same, with instructions.
func program(t *testing.T, s machine.State, list ...api.Inst) *machine.Machine {
	t.Helper()
	return with(t, s, bytesOf(t, list...))
}

func check(t *testing.T, got, want api.Errno) {
	t.Helper()
	if got != want {
		t.Errorf("answered %d, want %d", got, want)
	}
}

func checkRun(t *testing.T, x *machine.Machine, steps, done int, want api.Errno) {
	t.Helper()
	if n, e := x.Run(steps); n != done || e != want {
		t.Errorf("Run(%d): %d, %d; want %d, %d", steps, n, e, done, want)
	}
}

func checkExit(t *testing.T, x *machine.Machine, code int, ended bool) {
	t.Helper()
	if c, is := x.Exit(); c != code || is != ended {
		t.Errorf("Exit: %d, %t; want %d, %t", c, is, code, ended)
	}
}

func checkOut(t *testing.T, x *machine.Machine, want string) {
	t.Helper()
	if got := x.Out(); string(got) != want {
		t.Errorf("Out: %d bytes, %.40q; want %d, %.40q", len(got), got, len(want), want)
	}
}

func checkState(t *testing.T, x *machine.Machine, want machine.State) {
	t.Helper()
	if got := x.State(); got != want {
		t.Errorf("State:\n%s; want\n%s", shown(got), shown(want))
	}
}

func checkLoad(t *testing.T, m *memory.Memory, at uint64, size int, want uint64) {
	t.Helper()
	if v, e := m.Load(at, size); v != want || e != api.OK {
		t.Errorf("at %#x: %#x, %d; want %#x", at, v, e, want)
	}
}

func shown(s machine.State) string {
	return fmt.Sprintf("%x rip %x fs %x %+v", s.R, s.Rip, s.Fs, s.Flags)
}

// whole: all that can be seen of a Machine, but its memory.
type whole struct {
	s     machine.State
	out   string
	code  int
	ended bool
	i     api.Inst
	n     int
	e     api.Errno
}

func wholeOf(x *machine.Machine) whole {
	w := whole{s: x.State(), out: string(x.Out())}
	w.code, w.ended = x.Exit()
	w.i, w.n, w.e = x.Next()
	return w
}

// alike: whether two Machines can't be told apart.
func alike(a, b *machine.Machine) bool {
	return wholeOf(a) == wholeOf(b) && memory.Same(a.Memory(), b.Memory())
}

// unchanged: runs what must change nothing.
func unchanged(t *testing.T, x *machine.Machine, f func()) {
	t.Helper()
	before, m := wholeOf(x), x.Memory().Copy()
	f()
	if wholeOf(x) != before || !memory.Same(m, x.Memory()) {
		t.Errorf("something changed:\n%+v; was\n%+v", wholeOf(x), before)
	}
}

// fails: a Step answers this, and changes nothing; so does Run.
func fails(t *testing.T, x *machine.Machine, want api.Errno) {
	t.Helper()
	unchanged(t, x, func() {
		t.Helper()
		check(t, x.Step(), want)
		checkRun(t, x, 1, 0, want)
		checkRun(t, x, math.MaxInt, 0, want)
	})
}

// regs: registers by their numbers; cell: a number in memory.
type regs map[int]uint64

type cell struct {
	at   uint64
	size int
	v    uint64
}

// trial: one instruction, what registers, flags and memory have ahead of it, and what they become. What is not named is as in wild and in world, and stays.
type trial struct {
	i       api.Inst
	has     regs
	flags   api.Flags
	cells   []cell
	becomes regs
	then    api.Flags
	stores  []cell
	rip     uint64
}

// checkSteps: each of them, done once; of a rip of 0 it goes on behind the instruction.
func checkSteps(t *testing.T, list ...trial) {
	t.Helper()
	for _, c := range list {
		s := wild()
		s.Flags = c.flags
		put(&s, c.has)
		x := program(t, s, c.i)
		store(t, x.Memory(), c.cells)
		m := x.Memory().Copy()
		store(t, m, c.stores)
		put(&s, c.becomes)
		s.Flags, s.Rip = c.then, c.rip
		if c.rip == 0 {
			s.Rip = code + uint64(len(bytesOf(t, c.i)))
		}
		if e := x.Step(); e != api.OK || x.State() != s || len(x.Out()) != 0 {
			t.Errorf("%s: %d,\n%s; want\n%s", textOf(c.i), e, shown(x.State()), shown(s))
		}
		if !memory.Same(m, x.Memory()) {
			t.Errorf("%s: the memory is another", textOf(c.i))
		}
		checkExit(t, x, 0, false)
	}
}

func put(s *machine.State, list regs) {
	for r, v := range list {
		s.R[r] = v
	}
}

func store(t *testing.T, m *memory.Memory, list []cell) {
	t.Helper()
	for _, c := range list {
		check(t, m.Store(c.at, c.size, c.v), api.OK)
	}
}

// allFlags: each way in which the five may stand.
func allFlags() []api.Flags {
	var l []api.Flags
	for k := range 32 {
		l = append(l, api.Flags{C: k&1 != 0, P: k&2 != 0, Z: k&4 != 0, S: k&8 != 0, O: k&16 != 0})
	}
	return l
}

// every: all five.
func every() api.Flags { return api.Flags{C: true, P: true, Z: true, S: true, O: true} }

// dice: numbers that look wild, the same ones each time.
type dice uint64

func (d *dice) upTo(n int) int {
	*d = *d*6364136223846793005 + 1442695040888963407
	return int(uint64(*d)>>33) % n
}

func repeated(b byte, n int) string { return string(bytes.Repeat([]byte{b}, n)) }
