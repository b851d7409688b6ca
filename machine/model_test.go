package machine_test

import (
	"testing"

	"gangway/alu"
	"gangway/api"
	"gangway/forms"
	"gangway/machine"
	"gangway/memory"
)

// model: the chapter's table, done at once, line by line, on a state and a memory of its own; where something may not be, both are thrown away.
type model struct {
	s       machine.State
	m       *memory.Memory
	next    uint64
	refused bool
}

func (w *model) load(at uint64, size int) uint64 {
	v, e := w.m.Load(at, size)
	w.refused = w.refused || e != api.OK
	return v
}

func (w *model) store(at uint64, size int, v uint64) {
	w.refused = w.m.Store(at, size, v) != api.OK || w.refused
}

func (w *model) address(o api.Operand) uint64 {
	switch {
	case o.Rip:
		return w.next + uint64(o.N)
	case o.Fs:
		return w.s.Fs + uint64(o.N)
	case o.Index >= 0:
		return w.s.R[o.Base] + uint64(o.Scale)*w.s.R[o.Index] + uint64(o.N)
	}
	return w.s.R[o.Base] + uint64(o.N)
}

func (w *model) value(o api.Operand, size int) uint64 {
	v := uint64(o.N)
	switch o.Kind {
	case api.Mem:
		return w.load(w.address(o), size)
	case api.Reg:
		v = w.s.R[o.R]
	}
	switch size {
	case 1:
		return uint64(uint8(v))
	case 4:
		return uint64(uint32(v))
	}
	return v
}

func (w *model) put(o api.Operand, size int, v uint64) {
	switch {
	case o.Kind == api.Mem:
		w.store(w.address(o), size, v)
	case size == 1:
		w.s.R[o.R] = w.s.R[o.R]>>8<<8 | v&255
	case size == 4:
		w.s.R[o.R] = v << 32 >> 32
	default:
		w.s.R[o.R] = v
	}
}

// do: an instruction that is no Syscall; what it is stands at Rip.
func (w *model) do(i api.Inst) {
	holds, _ := alu.Cond(i.Cond, w.s.Flags)
	rsp := &w.s.R[api.Rsp]
	old := *rsp
	w.s.Rip = w.next
	switch i.Op {
	case api.Push:
		v := w.value(i.From, 8)
		*rsp -= 8
		w.store(*rsp, 8, v)
	case api.Pop:
		*rsp += 8
		w.put(i.To, 8, w.load(old, 8))
	case api.Call, api.Jmp:
		w.s.Rip = w.reached(i.To)
		if i.Op == api.Call {
			*rsp -= 8
			w.store(*rsp, 8, w.next)
		}
	case api.Jcc:
		if holds {
			w.s.Rip = w.reached(i.To)
		}
	case api.Ret:
		w.s.Rip = w.load(old, 8)
		*rsp += 8
	case api.Leave:
		*rsp = w.s.R[api.Rbp] + 8
		w.s.R[api.Rbp] = w.load(w.s.R[api.Rbp], 8)
	case api.Cqo:
		w.s.R[api.Rdx] = -(w.s.R[api.Rax] >> 63)
	case api.Ud2:
		w.refused = true
	case api.Nop:
	default:
		w.compute(i, holds)
	}
}

func (w *model) reached(o api.Operand) uint64 {
	if o.Kind == api.Target {
		return w.next + uint64(o.N)
	}
	return w.value(o, 8)
}

// compute: what makes something of two operands.
func (w *model) compute(i api.Inst, holds bool) {
	n, f := i.Size, w.s.Flags
	var v uint64
	switch i.Op {
	case api.Mov:
		v = w.value(i.From, n)
	case api.Lea:
		v = w.address(i.From)
	case api.Setcc:
		if holds {
			v = 1
		}
	case api.Movzx:
		v = w.value(i.From, 1)
	case api.Movsx:
		v = uint64(int8(w.value(i.From, 1)))
	case api.Cmov:
		v = w.value(i.To, n)
		if b := w.value(i.From, n); holds {
			v = b
		}
	case api.Xchg:
		a, b := w.value(i.To, n), w.value(i.From, n)
		w.put(i.To, n, b)
		w.put(i.From, n, a)
		return
	default:
		v, f = w.sum(i)
	}
	if i.Op != api.Cmp && i.Op != api.Test {
		w.put(i.To, n, v)
	}
	w.s.Flags = f
}

func (w *model) sum(i api.Inst) (v uint64, f api.Flags) {
	n, old := i.Size, w.s.Flags
	a, b := w.value(i.To, n), uint64(0)
	if i.From.Kind != api.None {
		b = w.value(i.From, n)
	}
	switch i.Op {
	case api.Add, api.Adc:
		v, f, _ = alu.Add(a, b, i.Op == api.Adc && old.C, n)
	case api.Sub, api.Sbb, api.Cmp:
		v, f, _ = alu.Sub(a, b, i.Op == api.Sbb && old.C, n)
	case api.And, api.Or, api.Xor, api.Test:
		v, f, _ = alu.Logic(i.Op, a, b, n)
	case api.Imul:
		v, f, _ = alu.Mul(a, b, n)
	case api.Shl, api.Shr, api.Sar:
		v, f, _ = alu.Shift(i.Op, a, int(b%256), old, n)
	default:
		v, f, _ = alu.One(i.Op, a, old, n)
	}
	return v, f
}

// operands: some of each kind; those in memory lead to where the registers of places say.
func operands() []api.Operand {
	list := []api.Operand{{}, reg(0), reg(1), reg(2), reg(4), reg(5), reg(6), reg(11), reg(13), based(5, 0), based(13, 9), based(4, -8), based(4, 0), indexed(5, 9, 8, -3), indexed(13, 10, 1, 0), rip(data - code), rip(fixed - code - 11), fs(0), fs(-0x7fe)}
	for _, n := range []int{-1 << 31, -129, -1, 0, 1, 7, 31, 63, 127, 1<<31 - 1, 1 << 40} {
		list = append(list, imm(n))
	}
	return append(list, target(0), target(-100), target(1<<20))
}

// places: where memory operands lead to: amid pages, over their ends, to what may be read or written alone, to nothing.
func places() []uint64 {
	return []uint64{data + 0x80, data + page - 5, fixed - 3, fixed + 40, fixed + page - 4, blind + 16, nowhere, 1<<64 - 9}
}

// each: instructions of all ops and sizes, of these operands, each in one state for each of the places.
func each(f func(i api.Inst, s machine.State)) {
	all, d := operands(), dice(1)
	for op := 1; op <= api.LastOp; op++ {
		for _, size := range []int{0, 1, 4, 8} {
			for _, to := range all {
				for _, from := range all {
					i := conditional(op, size, 0, to, from)
					if forms.Check(i) != api.OK {
						continue
					}
					if i.Cond = d.upTo(16); forms.Check(i) != api.OK {
						i.Cond = 0
					}
					for _, at := range places() {
						f(i, placed(&d, at))
					}
				}
			}
		}
	}
}

func placed(d *dice, at uint64) machine.State {
	s := wild()
	s.Flags = allFlags()[d.upTo(32)]
	s.R[1] = s.R[1]<<8 | uint64(d.upTo(256))
	s.R[5], s.R[13] = at, at
	s.R[9], s.R[10] = uint64(d.upTo(3)), -uint64(d.upTo(3))
	if d.upTo(3) == 0 {
		s.R[4] = at
	}
	return s
}

// TestP703Model: each of them as the model has it.
func TestP703Model(t *testing.T) {
	m := world(t)
	done, refused := 0, 0
	each(func(i api.Inst, s machine.State) {
		if i.Op == api.Syscall {
			return
		}
		b := bytesOf(t, i)
		check(t, m.Put(code, b), api.OK)
		w := &model{s: s, m: m.Copy(), next: code + uint64(len(b))}
		w.do(i)
		x := made(t, m.Copy(), s)
		e := x.Step()
		if w.refused {
			w.s, w.m = s, m
			refused++
		}
		done++
		if (e != api.OK) != w.refused || w.refused && (e == api.ErrForm) != (i.Op == api.Ud2) || x.State() != w.s || !memory.Same(w.m, x.Memory()) {
			t.Fatalf("%s in\n%s: %d,\n%s; want %t,\n%s", textOf(i), shown(s), e, shown(x.State()), w.refused, shown(w.s))
		}
	})
	if refused < 1000 || done < 3*refused/2 {
		t.Errorf("%d, and %d refused", done, refused)
	}
}

// mayStore, mayFlag: which instructions may change memory, and flags.
func mayStore(i api.Inst) bool {
	return i.To.Kind == api.Mem || i.Op == api.Push || i.Op == api.Call || i.Op == api.Xchg
}

func mayFlag(op int) bool {
	return op >= api.Add && op <= api.Test || op == api.Imul || op == api.Neg || op == api.Inc || op == api.Dec || op >= api.Shl && op <= api.Sar
}

// TestP708WhatMayChange: no register but those of forms.Sets, no memory and no flags but of those that may.
func TestP708WhatMayChange(t *testing.T) {
	m := world(t)
	stored, flagged := map[int]int{}, map[int]int{}
	each(func(i api.Inst, s machine.State) {
		check(t, m.Put(code, bytesOf(t, i)), api.OK)
		x := made(t, m.Copy(), s)
		x.Step()
		now := x.State()
		for r := range s.R {
			if now.R[r] != s.R[r] && forms.Sets(i)>>r&1 == 0 {
				t.Fatalf("%s changes register %d", textOf(i), r)
			}
		}
		if now.Flags != s.Flags {
			flagged[i.Op]++
		}
		if now.Fs != s.Fs || now.Flags != s.Flags && !mayFlag(i.Op) {
			t.Fatalf("%s: %s", textOf(i), shown(now))
		}
		if !memory.Same(m, x.Memory()) {
			stored[i.Op]++
			if !mayStore(i) {
				t.Fatalf("%s changes memory", textOf(i))
			}
		}
	})
	for op := 1; op <= api.LastOp; op++ {
		if mayFlag(op) != (flagged[op] > 0) {
			t.Errorf("op %d: flags changed %d times", op, flagged[op])
		}
	}
	if stored[api.Push] == 0 || stored[api.Call] == 0 || stored[api.Xchg] == 0 || stored[api.Mov] == 0 || stored[api.Cmp]+stored[api.Test] != 0 {
		t.Error(stored)
	}
}

// TestP709PushPop: of each register: all registers are as they were, but Rip.
func TestP709PushPop(t *testing.T) {
	for r := range 16 {
		for _, at := range []uint64{top, stack + 8, stack + page, data + page + 5, stack + 0x123} {
			s := wild()
			s.R[api.Rsp], s.Flags = at, allFlags()[r]
			x := program(t, s, push(reg(r)), one(api.Pop, reg(r)))
			checkRun(t, x, 2, 2, api.ErrBudget)
			s.Rip = x.State().Rip
			checkState(t, x, s)
			if s.Rip == code {
				t.Error("nothing was done")
			}
			checkLoad(t, x.Memory(), at-8, 8, s.R[r])
		}
	}
}

// thrown: a program by dice; its registers lead to data and to the stack.
func thrown(t *testing.T, d dice) *machine.Machine {
	t.Helper()
	all := operands()
	var b []byte
	for len(b) < page {
		to, from := all[d.upTo(len(all))], all[d.upTo(len(all))]
		if d.upTo(4) == 0 {
			from = api.Operand{}
		}
		i := inst(1+d.upTo(api.LastOp), []int{0, 1, 4, 8}[d.upTo(4)], to, from)
		if forms.Check(i) == api.OK && goesOn(i) {
			b = append(b, bytesOf(t, i)...)
		}
	}
	s := placed(&d, data+0x80)
	s.R[4] = top
	return with(t, s, b)
}

// goesOn: most programs would end soon with one that leads elsewhere, that changes a register of addresses, or that writes what may only be read.
func goesOn(i api.Inst) bool {
	for _, r := range []int{4, 5, 13} {
		if i.To == reg(r) || i.Op == api.Xchg && i.From == reg(r) {
			return false
		}
	}
	leads := i.Op >= api.Call && i.Op <= api.Leave && i.Op != api.Jcc || i.Op == api.Ud2
	return !leads && i.To.Kind != api.Target && i.To.N != fixed-code-11
}

// TestP703Rows: long rows of instructions, each step as the model has it.
func TestP703Rows(t *testing.T) {
	steps := 0
	for start := range 300 {
		x := thrown(t, dice(start))
		for range 100 {
			i, n, e := x.Next()
			if e != api.OK || i.Op == api.Syscall {
				break
			}
			w := &model{s: x.State(), m: x.Memory().Copy(), next: x.State().Rip + uint64(n)}
			w.do(i)
			if e := x.Step(); e != api.OK || w.refused {
				if (e != api.OK) != w.refused {
					t.Fatalf("%s: %d", textOf(i), e)
				}
				break
			}
			steps++
			if x.State() != w.s || !memory.Same(x.Memory(), w.m) {
				t.Fatalf("%s: %s; want %s", textOf(i), shown(x.State()), shown(w.s))
			}
		}
	}
	if steps < 10000 {
		t.Errorf("%d steps", steps)
	}
}
