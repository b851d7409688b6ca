package forms_test

import (
	"math"
	"strconv"
	"testing"

	"gangway/api"
	"gangway/forms"
)

type written struct {
	i    api.Inst
	text string
}

func checkTexts(t *testing.T, list []written) {
	t.Helper()
	for _, c := range list {
		if text, e := forms.Text(c.i); text != c.text || e != api.OK {
			t.Errorf("Text(%+v): %q, %d; want %q", c.i, text, e, c.text)
		}
	}
}

// two, one: an instruction with From and To, with To alone.
func two(op, size int, from, to api.Operand) api.Inst {
	return api.Inst{Op: op, Size: size, To: to, From: from}
}

func one(op, size int, to api.Operand) api.Inst { return api.Inst{Op: op, Size: size, To: to} }

func withCond(cond int, i api.Inst) api.Inst {
	i.Cond = cond
	return i
}

func short(i api.Inst) api.Inst {
	i.Short = true
	return i
}

// TestP304EachOp: an instruction of each op, of unlike sizes.
func TestP304EachOp(t *testing.T) {
	checkTexts(t, []written{
		{two(api.Mov, 8, reg(0), reg(3)), "movq %rax, %rbx"},
		{two(api.Mov, 8, imm(math.MaxInt), reg(9)), "movq $9223372036854775807, %r9"},
		{two(api.Mov, 4, based(5, 8), reg(0)), "movl 8(%rbp), %eax"},
		{two(api.Mov, 1, reg(6), indexed(13, 12, 4, 0)), "movb %sil, (%r13,%r12,4)"},
		{two(api.Lea, 8, named(rip(0), "f", api.Plain), reg(7)), "leaq f(%rip), %rdi"},
		{two(api.Lea, 4, based(4, 0), reg(15)), "leal (%rsp), %r15d"},
		{two(api.Add, 1, imm(-1), reg(0)), "addb $-1, %al"},
		{two(api.Or, 4, reg(8), based(8, 1)), "orl %r8d, 1(%r8)"},
		{two(api.Adc, 8, based(0, -1), reg(1)), "adcq -1(%rax), %rcx"},
		{two(api.Sbb, 4, imm(4294967295), reg(2)), "sbbl $4294967295, %edx"},
		{two(api.And, 8, imm(-16), reg(4)), "andq $-16, %rsp"},
		{two(api.Sub, 8, imm(0), rip(4)), "subq $0, 4(%rip)"},
		{two(api.Xor, 4, reg(0), reg(0)), "xorl %eax, %eax"},
		{two(api.Cmp, 1, imm(255), reg(5)), "cmpb $255, %bpl"},
		{two(api.Test, 8, reg(11), reg(10)), "testq %r11, %r10"},
		{two(api.Imul, 8, reg(2), reg(14)), "imulq %rdx, %r14"},
		{one(api.Neg, 1, reg(4)), "negb %spl"},
		{one(api.Not, 4, reg(7)), "notl %edi"},
		{one(api.Inc, 8, based(3, 0)), "incq (%rbx)"},
		{one(api.Dec, 1, reg(15)), "decb %r15b"},
		{two(api.Shl, 8, reg(1), reg(2)), "shlq %cl, %rdx"},
		{two(api.Shr, 4, reg(1), reg(1)), "shrl %cl, %ecx"},
		{two(api.Sar, 1, reg(1), based(6, 0)), "sarb %cl, (%rsi)"},
		{two(api.Sar, 8, imm(63), reg(0)), "sarq $63, %rax"},
		{api.Inst{Op: api.Push, Size: 8, From: reg(12)}, "pushq %r12"},
		{api.Inst{Op: api.Push, Size: 8, From: imm(-5)}, "pushq $-5"},
		{api.Inst{Op: api.Push, Size: 8, From: fs(40)}, "pushq %fs:40"},
		{one(api.Pop, 8, reg(5)), "popq %rbp"},
		{one(api.Call, 8, named(target(0), "f", api.Plt)), "call f@plt"},
		{one(api.Jmp, 8, to("f")), "jmp f"},
		{withCond(5, one(api.Jcc, 8, target(5))), "jne .+5"},
		{one(api.Ret, 0, api.Operand{}), "ret"},
		{one(api.Leave, 0, api.Operand{}), "leave"},
		{withCond(5, one(api.Setcc, 1, reg(0))), "setne %al"},
		{withCond(4, one(api.Setcc, 1, rip(0))), "sete (%rip)"},
		{withCond(12, two(api.Cmov, 4, reg(9), reg(8))), "cmovll %r9d, %r8d"},
		{withCond(15, two(api.Cmov, 8, based(1, 0), reg(8))), "cmovgq (%rcx), %r8"},
		{two(api.Movzx, 4, reg(7), reg(0)), "movzbl %dil, %eax"},
		{two(api.Movsx, 8, reg(4), reg(4)), "movsbq %spl, %rsp"},
		{two(api.Movsx, 4, based(4, 3), reg(9)), "movsbl 3(%rsp), %r9d"},
		{two(api.Xchg, 8, reg(0), based(2, 0)), "xchgq %rax, (%rdx)"},
		{one(api.Cqo, 0, api.Operand{}), "cqto"},
		{one(api.Nop, 0, api.Operand{}), "nop"},
		{one(api.Ud2, 0, api.Operand{}), "ud2"},
		{one(api.Syscall, 0, api.Operand{}), "syscall"},
	})
}

func TestP304Memory(t *testing.T) {
	for _, c := range []struct {
		o    api.Operand
		text string
	}{
		{rip(0), "(%rip)"},
		{rip(8), "8(%rip)"},
		{rip(least), "-2147483648(%rip)"},
		{named(rip(0), "x", api.Plain), "x(%rip)"},
		{named(rip(8), "x", api.Plain), "x+8(%rip)"},
		{named(rip(-8), "x", api.Plain), "x-8(%rip)"},
		{named(rip(0), "x", api.GotPcrel), "x@gotpcrel(%rip)"},
		{named(rip(0), "x", api.GotTpoff), "x@gottpoff(%rip)"},
		{fs(0), "%fs:0"},
		{fs(16), "%fs:16"},
		{fs(-16), "%fs:-16"},
		{named(fs(0), "x", api.Tpoff), "%fs:x@tpoff"},
		{named(fs(4), "x", api.Tpoff), "%fs:x@tpoff+4"},
		{named(fs(-4), "x", api.Tpoff), "%fs:x@tpoff-4"},
		{based(0, 0), "(%rax)"},
		{based(15, most), "2147483647(%r15)"},
		{based(4, -1), "-1(%rsp)"},
		{named(based(0, 0), "x", api.Tpoff), "x@tpoff(%rax)"},
		{named(based(0, 12), "x.y_1", api.Dtpoff), "x.y_1@dtpoff+12(%rax)"},
		{indexed(0, 1, 1, 0), "(%rax,%rcx,1)"},
		{indexed(4, 15, 2, 5), "5(%rsp,%r15,2)"},
		{indexed(5, 5, 4, -5), "-5(%rbp,%rbp,4)"},
		{named(indexed(8, 0, 8, least), "x", api.Dtpoff), "x@dtpoff-2147483648(%r8,%rax,8)"},
	} {
		checkTexts(t, []written{
			{two(api.Mov, 8, c.o, reg(0)), "movq " + c.text + ", %rax"},
			{two(api.Mov, 1, reg(2), c.o), "movb %dl, " + c.text},
			{api.Inst{Op: api.Push, Size: 8, From: c.o}, "pushq " + c.text},
			{one(api.Pop, 8, c.o), "popq " + c.text},
			{one(api.Call, 8, c.o), "call *" + c.text},
			{one(api.Jmp, 8, c.o), "jmp *" + c.text},
			{one(api.Neg, 4, c.o), "negl " + c.text},
		})
	}
}

func TestP304Targets(t *testing.T) {
	for _, c := range []struct {
		o    api.Operand
		text string
	}{
		{target(0), ".+0"}, {target(1), ".+1"}, {target(-1), ".-1"}, {target(127), ".+127"}, {target(-128), ".-128"},
		{to("f"), "f"}, {to(".L1"), ".L1"}, {to("short"), "short"}, {named(target(0), "f", api.Plt), "f@plt"},
	} {
		checkTexts(t, []written{
			{one(api.Call, 8, c.o), "call " + c.text},
			{one(api.Jmp, 8, c.o), "jmp " + c.text},
			{short(one(api.Jmp, 8, c.o)), "jmp short " + c.text},
			{withCond(14, one(api.Jcc, 8, c.o)), "jle " + c.text},
			{short(withCond(0, one(api.Jcc, 8, c.o))), "jo short " + c.text},
		})
	}
	checkTexts(t, []written{
		{one(api.Jmp, 8, target(most)), "jmp .+2147483647"},
		{one(api.Jmp, 8, target(least)), "jmp .-2147483648"},
	})
}

// TestP304Registers: each register in each of the places in which it may stand.
func TestP304Registers(t *testing.T) {
	for r := range 16 {
		q, l, b := "%"+forms.Register(r, 8), "%"+forms.Register(r, 4), "%"+forms.Register(r, 1)
		checkTexts(t, []written{
			{two(api.Mov, 8, reg(r), reg(0)), "movq " + q + ", %rax"},
			{two(api.Mov, 4, reg(0), reg(r)), "movl %eax, " + l},
			{two(api.Mov, 1, reg(r), reg(r)), "movb " + b + ", " + b},
			{two(api.Movzx, 4, reg(r), reg(r)), "movzbl " + b + ", " + l},
			{two(api.Movsx, 8, reg(r), reg(r)), "movsbq " + b + ", " + q},
			{two(api.Shr, 4, reg(1), reg(r)), "shrl %cl, " + l},
			{api.Inst{Op: api.Push, Size: 8, From: reg(r)}, "pushq " + q},
			{one(api.Pop, 8, reg(r)), "popq " + q},
			{one(api.Call, 8, reg(r)), "call *" + q},
			{one(api.Jmp, 8, reg(r)), "jmp *" + q},
			{withCond(3, one(api.Setcc, 1, reg(r))), "setae " + b},
			{two(api.Mov, 1, based(r, 0), reg(0)), "movb (" + q + "), %al"},
		})
		if r != 4 {
			checkTexts(t, []written{{two(api.Mov, 4, indexed(r, r, 2, 0), reg(0)), "movl (" + q + "," + q + ",2), %eax"}})
		}
	}
}

func TestP304Numbers(t *testing.T) {
	for _, n := range []int{math.MinInt, least - 1, least, -129, -1, 0, 1, 128, most, most + 1, 1 << 32, math.MaxInt} {
		checkTexts(t, []written{{two(api.Mov, 8, imm(n), reg(0)), "movq $" + strconv.Itoa(n) + ", %rax"}})
	}
}

func TestP304Errors(t *testing.T) {
	for _, i := range []api.Inst{{}, {Op: -1}, {Op: 36}, {Op: api.Ret, Size: 8}, two(api.Mov, 2, reg(0), reg(1)), two(api.Mov, 1, imm(256), reg(0)), two(api.Mov, 8, reg(16), reg(0)), one(api.Call, 8, named(target(0), "f", 7)), short(one(api.Call, 8, to("f"))), withCond(16, one(api.Jcc, 8, to("f"))), one(api.Jmp, 8, to("a b"))} {
		if text, e := forms.Text(i); text != "" || e != api.ErrForm {
			t.Errorf("Text(%+v): %q, %d", i, text, e)
		}
	}
}

// TestP306TextsAreUnlike: names are such as a source may have.
func TestP306TextsAreUnlike(t *testing.T) {
	seen := map[string]api.Inst{}
	list := append(rightInstructions(), addressed()...)
	for _, i := range list {
		text, e := forms.Text(i)
		if e != api.OK {
			t.Fatalf("Text(%+v): %d", i, e)
		}
		if other, is := seen[text]; is && other != i {
			t.Fatalf("%q: %+v and %+v", text, i, other)
		}
		seen[text] = i
	}
}

// addressed: one instruction with memory of all shapes: each base, index and scale, some numbers, names and mods.
func addressed() []api.Inst {
	var places []api.Operand
	for _, n := range []int{0, 1, -1, 12, least, most} {
		places = append(places, rip(n), fs(n))
		for base := range 16 {
			places = append(places, based(base, n))
			for index := range 16 {
				for _, scale := range []int{1, 2, 4, 8} {
					places = append(places, indexed(base, index, scale, n))
				}
			}
		}
	}
	var list []api.Inst
	for _, o := range places {
		list = append(list, inMemory(o))
		for _, name := range []string{"x", "y", "x1", ".", "_", "rip", "rax"} {
			for mod := range 6 {
				list = append(list, inMemory(named(o, name, mod)))
			}
		}
	}
	return keep(list)
}

func keep(list []api.Inst) []api.Inst {
	var right []api.Inst
	for _, i := range list {
		if forms.Check(i) == api.OK {
			right = append(right, i)
		}
	}
	return right
}
