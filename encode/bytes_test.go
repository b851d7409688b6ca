package encode_test

import (
	"bytes"
	"slices"
	"strings"
	"testing"

	"gangway/api"
	"gangway/encode"
	"gangway/forms"
)

// written: an instruction, and its bytes by hand.
type written struct {
	i    api.Inst
	want string
}

func checkWritten(t *testing.T, l []written) {
	t.Helper()
	for _, c := range l {
		b, _, e := encode.Bytes(c.i)
		if got := encode.Text(b); got != c.want || e != api.OK {
			t.Errorf("Bytes(%+v): %s, %d; want %s", c.i, got, e, c.want)
		}
		if n, e := encode.Length(c.i); n != len(strings.Fields(c.want)) || e != api.OK {
			t.Errorf("Length(%+v): %d, %d; want %s", c.i, n, e, c.want)
		}
	}
}

func TestP401Examples(t *testing.T) {
	none := api.Operand{}
	checkWritten(t, []written{
		{inst(api.Mov, 8, reg(3), reg(0)), "48 89 c3"},
		{inst(api.Mov, 4, reg(0), imm(1)), "b8 01 00 00 00"},
		{inst(api.Mov, 8, reg(0), imm(-1)), "48 c7 c0 ff ff ff ff"},
		{inst(api.Add, 8, reg(4), imm(8)), "48 83 c4 08"},
		{inst(api.Add, 4, reg(0), imm(4294967295)), "83 c0 ff"},
		{inst(api.Mov, 8, reg(0), based(5, 8)), "48 8b 45 08"},
		{inst(api.Mov, 8, reg(0), based(4, 0)), "48 8b 04 24"},
		{inst(api.Mov, 8, reg(0), based(5, 0)), "48 8b 45 00"},
		{inst(api.Mov, 1, indexed(13, 12, 4, 0), reg(6)), "43 88 74 a5 00"},
		{inst(api.Mov, 8, reg(0), fs(0)), "64 48 8b 04 25 00 00 00 00"},
		{inst(api.Lea, 8, reg(7), named(rip(0), "f", api.Plain)), "48 8d 3d 00 00 00 00"},
		{inst(api.Mov, 4, named(rip(0), "x", api.Plain), imm(5)), "c7 05 00 00 00 00 05 00 00 00"},
		{inst(api.Call, 8, to("f", api.Plt), none), "e8 00 00 00 00"},
		{short(when(inst(api.Jcc, 8, target(5), none), 5)), "75 05"},
		{inst(api.Push, 8, none, reg(12)), "41 54"},
		{inst(api.Pop, 8, reg(5), none), "5d"},
		{inst(api.Shl, 8, reg(2), reg(1)), "48 d3 e2"},
		{when(inst(api.Setcc, 1, reg(0), none), 5), "0f 95 c0"},
		{inst(api.Movzx, 4, reg(0), reg(7)), "40 0f b6 c7"},
		{inst(api.Syscall, 0, none, none), "0f 05"},
	})
}

// TestP401EachLine: by hand, each line of the chapter's table.
func TestP401EachLine(t *testing.T) {
	none := api.Operand{}
	checkWritten(t, []written{
		{inst(api.Mov, 1, reg(0), reg(1)), "88 c8"},
		{inst(api.Mov, 4, reg(8), reg(1)), "41 89 c8"},
		{inst(api.Mov, 4, based(1, 0), reg(8)), "44 89 01"},
		{inst(api.Mov, 1, reg(0), based(1, 0)), "8a 01"},
		{inst(api.Mov, 4, reg(15), based(9, 0)), "45 8b 39"},
		{inst(api.Mov, 1, reg(3), imm(-1)), "b3 ff"},
		{inst(api.Mov, 1, reg(11), imm(255)), "41 b3 ff"},
		{inst(api.Mov, 4, reg(9), imm(-2)), "41 b9 fe ff ff ff"},
		{inst(api.Mov, 8, reg(9), imm(-2)), "49 c7 c1 fe ff ff ff"},
		{inst(api.Mov, 1, based(0, 1), imm(7)), "c6 40 01 07"},
		{inst(api.Mov, 8, based(0, 1), imm(7)), "48 c7 40 01 07 00 00 00"},
		{inst(api.Mov, 8, reg(9), imm(0x123456789abcdef0)), "49 b9 f0 de bc 9a 78 56 34 12"},
		{inst(api.Lea, 4, reg(9), indexed(0, 1, 2, 3)), "44 8d 4c 48 03"},
		{inst(api.Cmp, 1, reg(0), reg(1)), "38 c8"},
		{inst(api.Sbb, 8, reg(0), reg(9)), "4c 19 c8"},
		{inst(api.Or, 1, reg(0), based(1, 0)), "0a 01"},
		{inst(api.Xor, 8, reg(0), based(1, 0)), "48 33 01"},
		{inst(api.And, 1, reg(3), imm(240)), "80 e3 f0"},
		{inst(api.Sub, 8, reg(4), imm(128)), "48 81 ec 80 00 00 00"},
		{inst(api.Adc, 4, based(0, 0), imm(-128)), "83 10 80"},
		{inst(api.Test, 1, reg(0), reg(0)), "84 c0"},
		{inst(api.Test, 8, reg(0), reg(0)), "48 85 c0"},
		{inst(api.Test, 1, reg(0), imm(1)), "f6 c0 01"},
		{inst(api.Test, 8, reg(0), imm(1)), "48 f7 c0 01 00 00 00"},
		{inst(api.Imul, 8, reg(8), reg(1)), "4c 0f af c1"},
		{inst(api.Imul, 4, reg(0), based(9, 0)), "41 0f af 01"},
		{inst(api.Not, 1, reg(2), none), "f6 d2"},
		{inst(api.Not, 8, reg(2), none), "48 f7 d2"},
		{inst(api.Neg, 1, reg(2), none), "f6 da"},
		{inst(api.Neg, 4, based(2, 0), none), "f7 1a"},
		{inst(api.Inc, 1, reg(2), none), "fe c2"},
		{inst(api.Inc, 8, reg(10), none), "49 ff c2"},
		{inst(api.Dec, 1, reg(2), none), "fe ca"},
		{inst(api.Dec, 4, reg(2), none), "ff ca"},
		{inst(api.Shl, 1, reg(0), imm(1)), "c0 e0 01"},
		{inst(api.Shr, 4, reg(0), imm(31)), "c1 e8 1f"},
		{inst(api.Sar, 8, based(0, 0), imm(63)), "48 c1 38 3f"},
		{inst(api.Sar, 1, reg(0), reg(1)), "d2 f8"},
		{inst(api.Shr, 4, reg(8), reg(1)), "41 d3 e8"},
		{inst(api.Push, 8, none, reg(0)), "50"},
		{inst(api.Push, 8, none, based(0, 0)), "ff 30"},
		{inst(api.Push, 8, none, based(8, 0)), "41 ff 30"},
		{inst(api.Push, 8, none, imm(-128)), "6a 80"},
		{inst(api.Push, 8, none, imm(-129)), "68 7f ff ff ff"},
		{inst(api.Pop, 8, reg(15), none), "41 5f"},
		{inst(api.Pop, 8, based(0, 0), none), "8f 00"},
		{inst(api.Call, 8, target(-5), none), "e8 fb ff ff ff"},
		{inst(api.Call, 8, reg(8), none), "41 ff d0"},
		{inst(api.Call, 8, based(0, 0), none), "ff 10"},
		{short(inst(api.Jmp, 8, target(-2), none)), "eb fe"},
		{inst(api.Jmp, 8, target(-2), none), "e9 fe ff ff ff"},
		{inst(api.Jmp, 8, reg(0), none), "ff e0"},
		{inst(api.Jmp, 8, based(13, 0), none), "41 ff 65 00"},
		{short(when(inst(api.Jcc, 8, target(127), none), 15)), "7f 7f"},
		{when(inst(api.Jcc, 8, target(127), none), 15), "0f 8f 7f 00 00 00"},
		{when(inst(api.Setcc, 1, based(8, 0), none), 0), "41 0f 90 00"},
		{when(inst(api.Cmov, 8, reg(0), reg(8)), 15), "49 0f 4f c0"},
		{when(inst(api.Cmov, 4, reg(0), based(0, 0)), 0), "0f 40 00"},
		{inst(api.Movzx, 8, reg(8), reg(0)), "4c 0f b6 c0"},
		{inst(api.Movsx, 4, reg(0), based(0, 0)), "0f be 00"},
		{inst(api.Xchg, 4, reg(0), reg(0)), "87 c0"},
		{inst(api.Xchg, 8, based(0, 0), reg(9)), "4c 87 08"},
		{inst(api.Ret, 0, none, none), "c3"},
		{inst(api.Leave, 0, none, none), "c9"},
		{inst(api.Nop, 0, none, none), "90"},
		{inst(api.Cqo, 0, none, none), "48 99"},
		{inst(api.Ud2, 0, none, none), "0f 0b"},
	})
}

// TestP401RexOfBytes: 0x40, that is there all the same: for registers of one byte alone, and from 4 to 7.
func TestP401RexOfBytes(t *testing.T) {
	none := api.Operand{}
	checkWritten(t, []written{
		{inst(api.Mov, 1, reg(3), reg(0)), "88 c3"},
		{inst(api.Mov, 1, reg(4), reg(0)), "40 88 c4"},
		{inst(api.Mov, 1, reg(0), reg(7)), "40 88 f8"},
		{inst(api.Mov, 1, reg(8), reg(0)), "41 88 c0"},
		{inst(api.Mov, 1, reg(8), reg(5)), "41 88 e8"},
		{inst(api.Mov, 4, reg(4), reg(7)), "89 fc"},
		{inst(api.Mov, 1, reg(0), based(6, 0)), "8a 06"},
		{inst(api.Mov, 1, reg(6), based(0, 0)), "40 8a 30"},
		{inst(api.Mov, 1, reg(5), imm(0)), "40 b5 00"},
		{inst(api.Mov, 1, based(4, 0), imm(0)), "c6 04 24 00"},
		{inst(api.Add, 1, reg(6), imm(0)), "40 80 c6 00"},
		{inst(api.Shl, 1, reg(7), reg(1)), "40 d2 e7"},
		{inst(api.Shl, 1, reg(1), reg(1)), "d2 e1"},
		{inst(api.Inc, 1, reg(4), none), "40 fe c4"},
		{when(inst(api.Setcc, 1, reg(4), none), 4), "40 0f 94 c4"},
		{when(inst(api.Setcc, 1, reg(8), none), 4), "41 0f 94 c0"},
		{inst(api.Movzx, 4, reg(7), reg(3)), "0f b6 fb"},
		{inst(api.Movzx, 4, reg(0), reg(4)), "40 0f b6 c4"},
		{inst(api.Movsx, 8, reg(0), reg(4)), "48 0f be c4"},
		{inst(api.Movsx, 4, reg(0), based(4, 0)), "0f be 04 24"},
		{inst(api.Test, 1, reg(6), reg(6)), "40 84 f6"},
		{inst(api.Push, 8, none, reg(4)), "54"},
	})
}

// checkLine: bytes, holes and length of an instruction, as its line has them.
func checkLine(t *testing.T, all []line, i api.Inst) {
	t.Helper()
	want, holes := lineOf(t, all, i).wanted(i)
	b, h, e := encode.Bytes(i)
	if !bytes.Equal(b, want) || !slices.Equal(h, holes) || e != api.OK {
		t.Fatalf("Bytes(%+v): %s, %v, %d; want %s, %v", i, encode.Text(b), h, e, encode.Text(want), holes)
	}
	if n, e := encode.Length(i); n != len(want) || e != api.OK {
		t.Fatalf("Length(%+v): %d, %d; want %d", i, n, e, len(want))
	}
}

// linesOf: those of one op, since all would be gone through for each instruction.
func linesOf(op int) []line {
	var l []line
	for _, x := range lines() {
		if slices.Contains(x.ops, op) {
			l = append(l, x)
		}
	}
	return l
}

// eachInstruction: of all ops, sizes and sample operands those that Check takes, with conditions and short ones.
func eachInstruction(f func(i api.Inst)) {
	all := operands()
	for op := 1; op <= api.LastOp; op++ {
		for _, size := range []int{0, 1, 4, 8} {
			for _, to := range all {
				for _, from := range all {
					i := inst(op, size, to, from)
					if forms.Check(i) != api.OK {
						continue
					}
					f(i)
					if j := short(i); forms.Check(j) == api.OK {
						f(j)
					}
				}
			}
		}
	}
}

// TestP401AllOperands: all ops, sizes and sample operands held against the chapter's table.
func TestP401AllOperands(t *testing.T) {
	count := 0
	op, all := 0, []line(nil)
	eachInstruction(func(i api.Inst) {
		if i.Op != op {
			op, all = i.Op, linesOf(i.Op)
		}
		checkLine(t, all, i)
		count++
	})
	if count < 30000 {
		t.Errorf("%d instructions", count)
	}
}

func TestP401Conditions(t *testing.T) {
	for cond := range 16 {
		for _, size := range []int{4, 8} {
			for _, from := range append(registers(), fewMemory()...) {
				checkLine(t, linesOf(api.Cmov), when(inst(api.Cmov, size, reg(9), from), cond))
			}
		}
		for _, to := range append(registers(), fewMemory()...) {
			checkLine(t, linesOf(api.Setcc), when(inst(api.Setcc, 1, to, api.Operand{}), cond))
		}
		for _, to := range targets() {
			i := when(inst(api.Jcc, 8, to, api.Operand{}), cond)
			checkLine(t, linesOf(api.Jcc), i)
			if between(to.N, -128, 127) {
				checkLine(t, linesOf(api.Jcc), short(i))
			}
		}
	}
}

// TestP401Memory: each Base, Index, Scale and displacement, read, written, and ahead of numbers of 1 and 4 bytes.
func TestP401Memory(t *testing.T) {
	mov, add, push := linesOf(api.Mov), linesOf(api.Add), linesOf(api.Push)
	for _, m := range memory() {
		checkLine(t, mov, inst(api.Mov, 8, reg(9), m))
		checkLine(t, mov, inst(api.Mov, 1, m, reg(6)))
		checkLine(t, mov, inst(api.Mov, 4, m, imm(-2)))
		checkLine(t, add, inst(api.Add, 8, m, imm(127)))
		checkLine(t, push, inst(api.Push, 8, api.Operand{}, m))
	}
}

// TestP401MemoryByHand: the same about the registers that differ from others.
func TestP401MemoryByHand(t *testing.T) {
	load := func(m api.Operand) api.Inst { return inst(api.Mov, 8, reg(0), m) }
	checkWritten(t, []written{
		{load(based(0, 0)), "48 8b 00"},
		{load(based(0, -128)), "48 8b 40 80"},
		{load(based(0, 127)), "48 8b 40 7f"},
		{load(based(0, -129)), "48 8b 80 7f ff ff ff"},
		{load(based(0, 128)), "48 8b 80 80 00 00 00"},
		{load(based(12, 0)), "49 8b 04 24"},
		{load(based(4, 8)), "48 8b 44 24 08"},
		{load(based(4, 128)), "48 8b 84 24 80 00 00 00"},
		{load(based(13, 0)), "49 8b 45 00"},
		{load(based(13, -129)), "49 8b 85 7f ff ff ff"},
		{load(indexed(4, 0, 1, 0)), "48 8b 04 04"},
		{load(indexed(12, 0, 2, 0)), "49 8b 04 44"},
		{load(indexed(5, 0, 4, 0)), "48 8b 44 85 00"},
		{load(indexed(13, 5, 8, 0)), "49 8b 44 ed 00"},
		{load(indexed(0, 12, 1, 0)), "4a 8b 04 20"},
		{load(indexed(0, 13, 8, 128)), "4a 8b 84 e8 80 00 00 00"},
		{load(named(based(0, 0), "x", api.Tpoff)), "48 8b 80 00 00 00 00"},
		{load(named(based(4, 5), "x", api.Dtpoff)), "48 8b 84 24 00 00 00 00"},
		{load(named(indexed(5, 0, 4, 1), "x", api.Tpoff)), "48 8b 84 85 00 00 00 00"},
		{load(rip(0)), "48 8b 05 00 00 00 00"},
		{load(rip(-2)), "48 8b 05 fe ff ff ff"},
		{load(fs(-8)), "64 48 8b 04 25 f8 ff ff ff"},
		{inst(api.Mov, 1, fs(1), reg(14)), "64 44 88 34 25 01 00 00 00"},
		{inst(api.Mov, 4, fs(1), imm(2)), "64 c7 04 25 01 00 00 00 02 00 00 00"},
	})
}

// TestP401ShortNumbers: on both sides of what is short; of Size 4 by the low 32 bits alone.
func TestP401ShortNumbers(t *testing.T) {
	none := api.Operand{}
	checkWritten(t, []written{
		{inst(api.Add, 4, reg(1), imm(-129)), "81 c1 7f ff ff ff"},
		{inst(api.Add, 4, reg(1), imm(-128)), "83 c1 80"},
		{inst(api.Add, 4, reg(1), imm(127)), "83 c1 7f"},
		{inst(api.Add, 4, reg(1), imm(128)), "81 c1 80 00 00 00"},
		{inst(api.Add, 4, reg(1), imm(1<<32-129)), "81 c1 7f ff ff ff"},
		{inst(api.Add, 4, reg(1), imm(1<<32-128)), "83 c1 80"},
		{inst(api.Add, 4, reg(1), imm(1<<31)), "81 c1 00 00 00 80"},
		{inst(api.Add, 4, reg(1), imm(least)), "81 c1 00 00 00 80"},
		{inst(api.Add, 8, reg(1), imm(-129)), "48 81 c1 7f ff ff ff"},
		{inst(api.Add, 8, reg(1), imm(-128)), "48 83 c1 80"},
		{inst(api.Add, 8, reg(1), imm(127)), "48 83 c1 7f"},
		{inst(api.Add, 8, reg(1), imm(128)), "48 81 c1 80 00 00 00"},
		{inst(api.Add, 8, reg(1), imm(most)), "48 81 c1 ff ff ff 7f"},
		{inst(api.Add, 1, reg(1), imm(-128)), "80 c1 80"},
		{inst(api.Add, 1, reg(1), imm(128)), "80 c1 80"},
		{inst(api.Push, 8, none, imm(127)), "6a 7f"},
		{inst(api.Push, 8, none, imm(128)), "68 80 00 00 00"},
		{inst(api.Mov, 4, reg(1), imm(1<<32-1)), "b9 ff ff ff ff"},
		{inst(api.Mov, 8, reg(1), imm(least)), "48 c7 c1 00 00 00 80"},
		{inst(api.Mov, 8, reg(1), imm(least-1)), "48 b9 ff ff ff 7f ff ff ff ff"},
		{inst(api.Mov, 8, reg(1), imm(most)), "48 c7 c1 ff ff ff 7f"},
		{inst(api.Mov, 8, reg(1), imm(most+1)), "48 b9 00 00 00 80 00 00 00 00"},
		{inst(api.Mov, 8, reg(1), imm(-1<<63)), "48 b9 00 00 00 00 00 00 00 80"},
		{inst(api.Test, 4, reg(1), imm(127)), "f7 c1 7f 00 00 00"},
		{inst(api.Mov, 4, based(1, 0), imm(127)), "c7 01 7f 00 00 00"},
	})
}

// TestP401Refused: what Check takes not, with each answer zero.
func TestP401Refused(t *testing.T) {
	none := api.Operand{}
	for _, i := range []api.Inst{
		{},
		inst(-1, 8, reg(0), reg(1)),
		inst(api.LastOp+1, 0, none, none),
		inst(api.Mov, 2, reg(0), reg(1)),
		inst(api.Mov, 0, reg(0), reg(1)),
		inst(api.Mov, 8, reg(16), reg(1)),
		inst(api.Mov, 8, reg(0), reg(-1)),
		inst(api.Mov, 8, based(0, 0), based(0, 0)),
		inst(api.Mov, 8, based(0, 0), imm(most+1)),
		inst(api.Mov, 1, reg(0), imm(256)),
		inst(api.Mov, 4, reg(0), imm(1<<32)),
		inst(api.Add, 8, reg(0), imm(most+1)),
		inst(api.Mov, 8, reg(0), indexed(0, 4, 1, 0)),
		inst(api.Mov, 8, reg(0), indexed(0, 1, 3, 0)),
		inst(api.Mov, 8, reg(0), named(rip(0), "x", api.Tpoff)),
		inst(api.Lea, 8, reg(0), fs(0)),
		inst(api.Shl, 8, reg(0), imm(64)),
		inst(api.Shl, 8, reg(0), reg(2)),
		inst(api.Push, 8, reg(0), none),
		inst(api.Call, 8, target(most+1), none),
		short(inst(api.Jmp, 8, target(128), none)),
		short(inst(api.Call, 8, target(0), none)),
		when(inst(api.Jcc, 8, target(0), none), 16),
		when(inst(api.Mov, 8, reg(0), reg(1)), 1),
		inst(api.Ret, 8, none, none),
	} {
		if b, h, e := encode.Bytes(i); len(b) != 0 || len(h) != 0 || e != api.ErrForm {
			t.Errorf("Bytes(%+v): %v, %v, %d", i, b, h, e)
		}
		if n, e := encode.Length(i); n != 0 || e != api.ErrForm {
			t.Errorf("Length(%+v): %d, %d", i, n, e)
		}
	}
}
