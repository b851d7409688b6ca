package decode_test

import (
	"sync"
	"testing"

	"gangway/api"
	"gangway/decode"
	"gangway/encode"
	"gangway/forms"
)

// start: the bytes of an instruction up to where its displacement and its number begin, at most six, as a number of its own: the first byte stands lowest, and how many there are above all.
type start uint64

func (s start) count() int { return int(s >> 56) }

func (s start) with(b byte) start {
	n := s.count()
	return s&(1<<56-1) | start(b)<<(8*n) | start(n+1)<<56
}

func (s start) bytes() []byte {
	b := make([]byte, s.count())
	for k := range b {
		b[k] = byte(s >> (8 * k))
	}
	return b
}

// known: of a start: that more of a start's bytes follow, that a displacement or a number follows, that it is a whole instruction.
type known uint8

const (
	starting known = 1 << iota
	followed
	whole
)

// payload: how many of an instruction's bytes are a displacement and a number.
func payload(i api.Inst) int { return displaced(i) + numbered(i) }

func displaced(i api.Inst) int {
	n := 0
	for _, o := range []api.Operand{i.To, i.From} {
		switch {
		case o.Kind == api.Target && i.Short:
			n++
		case o.Kind == api.Target, o.Kind == api.Mem && o.Base < 0, o.Kind == api.Mem && (o.N < -128 || o.N > 127):
			n += 4
		case o.Kind == api.Mem && (o.N != 0 || o.Base&7 == 5):
			n++
		}
	}
	return n
}

func numbered(i api.Inst) int {
	switch {
	case i.From.Kind != api.Imm:
		return 0
	case i.Op == api.Shl || i.Op == api.Shr || i.Op == api.Sar || i.Size == 1:
		return 1
	case i.Op == api.Mov && i.To.Kind == api.Reg && i.Size == 8 && i.From.N != int(int32(i.From.N)):
		return 8
	case i.Op == api.Mov || i.Op == api.Test || i.From.N != int(int8(i.From.N)):
		return 4
	}
	return 1
}

// starts: those of all instructions that a function hands out.
func starts(t *testing.T, each func(f func(api.Inst))) map[start]known {
	all := map[start]known{}
	each(func(i api.Inst) {
		b, _, e := encode.Bytes(i)
		if e != api.OK {
			t.Fatalf("%+v: %d", i, e)
		}
		var s start
		for _, x := range b[:len(b)-payload(i)] {
			all[s] |= starting
			s = s.with(x)
		}
		if s.count() < len(b) {
			all[s] |= followed
		} else {
			all[s] |= whole
		}
	})
	return all
}

// allShapes: each register and each memory, of each kind of displacement.
func allShapes() []api.Operand {
	l := append(registers(), rip(5), fs(6))
	for _, n := range []int{0, 7, 1000} {
		l = append(l, shapes(n)...)
	}
	return l
}

// modelOps: all ops but those between the first sum and the last one; of conditions the first and the last one.
func modelOps() []api.Inst {
	var l []api.Inst
	for op := 1; op <= api.LastOp; op++ {
		if op >= api.Or && op <= api.Xor {
			continue
		}
		l = append(l, api.Inst{Op: op})
		if op == api.Jcc || op == api.Setcc || op == api.Cmov {
			l = append(l, api.Inst{Op: op, Cond: 15})
		}
	}
	return l
}

// eachShape: all instructions of model ops, as far as their starts differ.
func eachShape(f func(api.Inst)) {
	shapes := allShapes()
	for _, i := range modelOps() {
		for _, size := range []int{0, 1, 4, 8} {
			i.Size = size
			if forms.Name(i.Op, size, i.Cond) != "" {
				eachOfOp(i, shapes, f)
			}
		}
	}
}

func eachOfOp(i api.Inst, shapes []api.Operand, f func(api.Inst)) {
	offer := func(to, from api.Operand, short bool) {
		i.To, i.From, i.Short = to, from, short
		if forms.Check(i) == api.OK {
			f(i)
		}
	}
	none := api.Operand{}
	offer(none, none, false)
	offer(target(5), none, false)
	offer(target(5), none, true)
	for _, n := range []int{5, 1000, 1 << 40} {
		offer(none, imm(n), false)
	}
	for k, to := range shapes {
		offer(to, none, false)
		offer(none, to, false)
		for _, n := range []int{5, 1000, 1 << 40} {
			offer(to, imm(n), false)
		}
		for r := range 16 {
			offer(to, reg(r), false)
			if k >= 16 {
				offer(reg(r), to, false)
			}
		}
	}
}

// isOfOthers: whether an opcode is one of ops that are no model ops: nothing is known of these.
func isOfOthers(s start) bool {
	b := s.bytes()
	if len(b) > 0 && b[0] == 0x64 {
		b = b[1:]
	}
	if len(b) > 0 && b[0]&0xf0 == 0x40 {
		b = b[1:]
	}
	switch {
	case len(b) == 0:
		return false
	case b[0] != 0x0f:
		return b[0] >= 0x08 && b[0] < 0x38 && b[0]&4 == 0 || b[0] > 0x70 && b[0] < 0x7f || len(b) > 1 && (b[0] == 0x80 || b[0] == 0x81 || b[0] == 0x83) && b[1]>>3&7 > 0 && b[1]>>3&7 < 7
	case len(b) == 1:
		return false
	}
	group := b[1] & 0xf0
	return (group == 0x40 || group == 0x80 || group == 0x90) && b[1] != group && b[1] != group+15
}

// wantOf: what One answers of a start.
func wantOf(k known) api.Errno {
	switch {
	case k&whole != 0:
		return api.OK
	case k != 0:
		return api.ErrEnd
	}
	return api.ErrForm
}

// TestP502EachStart: whatever stands ahead of displacement and number, byte by byte: an instruction, the beginning of one, or none.
func TestP502EachStart(t *testing.T) {
	all := starts(t, eachShape)
	var open []start
	for s, k := range all {
		if k&starting != 0 {
			if k != starting {
				t.Fatalf("% x: more than one thing: %d", s.bytes(), k)
			}
			open = append(open, s)
		}
	}
	var group sync.WaitGroup
	for part := range 8 {
		group.Add(1)
		go func() {
			defer group.Done()
			for k := part; k < len(open); k += 8 {
				if !checkNext(t, all, open[k]) {
					return
				}
			}
		}()
	}
	group.Wait()
	if len(open) < 8000 {
		t.Errorf("only %d starts", len(open))
	}
}

// checkNext: each byte that may follow.
func checkNext(t *testing.T, all map[start]known, s start) bool {
	for x := range 256 {
		next := s.with(byte(x))
		if isOfOthers(next) {
			continue
		}
		b := next.bytes()
		if _, n, e := decode.One(b, 0); e != wantOf(all[next]) || e == api.OK && n != len(b) {
			t.Errorf("One(% x): %d, %d; want %d", b, n, e, wantOf(all[next]))
			return false
		}
	}
	return true
}
