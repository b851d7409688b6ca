package decode_test

import (
	"math"
	"testing"

	"gangway/api"
	"gangway/decode"
)

func TestP502Examples(t *testing.T) {
	checkTold(t, []told{
		{"48 89 c3", "movq %rax, %rbx"},
		{"90", "nop"},
		{"48 8b 80 08 00 00 00", "movq 8(%rax), %rax"},
		{"48 8b 40 08", "movq 8(%rax), %rax"},
	})
	checkError(t, api.ErrEnd, "48", "", "48 81 c0 05 00 00")
	checkError(t, api.ErrForm, "40 90", "48 81 c0 05 00 00 00", "06")
	checkOne(t, raw("48 89 c3"), inst(api.Mov, 8, reg(3), reg(0)), 3, api.OK)
}

// TestP502EachLine: by hand, each line of chapter 4's table.
func TestP502EachLine(t *testing.T) {
	checkTold(t, []told{
		{"88 c8", "movb %cl, %al"}, {"41 89 c8", "movl %ecx, %r8d"}, {"4c 89 01", "movq %r8, (%rcx)"},
		{"8a 01", "movb (%rcx), %al"}, {"45 8b 39", "movl (%r9), %r15d"}, {"48 8b 01", "movq (%rcx), %rax"},
		{"b3 ff", "movb $-1, %bl"}, {"41 b9 fe ff ff ff", "movl $-2, %r9d"},
		{"49 c7 c1 fe ff ff ff", "movq $-2, %r9"}, {"c6 40 01 07", "movb $7, 1(%rax)"}, {"c7 00 07 00 00 00", "movl $7, (%rax)"}, {"48 c7 40 01 07 00 00 00", "movq $7, 1(%rax)"},
		{"49 b9 f0 de bc 9a 78 56 34 12", "movq $1311768467463790320, %r9"},
		{"44 8d 4c 48 03", "leal 3(%rax,%rcx,2), %r9d"}, {"48 8d 3d 04 00 00 00", "leaq 4(%rip), %rdi"},
		{"00 c8", "addb %cl, %al"}, {"09 c8", "orl %ecx, %eax"}, {"48 11 c8", "adcq %rcx, %rax"}, {"4c 19 c8", "sbbq %r9, %rax"}, {"20 01", "andb %al, (%rcx)"}, {"29 01", "subl %eax, (%rcx)"}, {"48 31 01", "xorq %rax, (%rcx)"}, {"38 c8", "cmpb %cl, %al"},
		{"02 01", "addb (%rcx), %al"}, {"0a 01", "orb (%rcx), %al"}, {"13 01", "adcl (%rcx), %eax"}, {"48 1b 01", "sbbq (%rcx), %rax"}, {"22 01", "andb (%rcx), %al"}, {"2b 01", "subl (%rcx), %eax"}, {"48 33 01", "xorq (%rcx), %rax"}, {"3b 01", "cmpl (%rcx), %eax"},
		{"80 c3 f0", "addb $-16, %bl"}, {"80 cb f0", "orb $-16, %bl"}, {"83 d3 f0", "adcl $-16, %ebx"}, {"48 83 db f0", "sbbq $-16, %rbx"}, {"81 e3 f0 00 00 00", "andl $240, %ebx"}, {"48 81 ec 80 00 00 00", "subq $128, %rsp"}, {"83 30 80", "xorl $-128, (%rax)"}, {"80 38 01", "cmpb $1, (%rax)"},
		{"84 c0", "testb %al, %al"}, {"85 c0", "testl %eax, %eax"}, {"48 85 c0", "testq %rax, %rax"},
		{"f6 c0 01", "testb $1, %al"}, {"f7 c0 01 00 00 00", "testl $1, %eax"}, {"48 f7 c0 01 00 00 00", "testq $1, %rax"},
		{"4c 0f af c1", "imulq %rcx, %r8"}, {"41 0f af 01", "imull (%r9), %eax"},
		{"f6 d2", "notb %dl"}, {"f7 d2", "notl %edx"}, {"48 f7 d2", "notq %rdx"}, {"f6 da", "negb %dl"}, {"f7 1a", "negl (%rdx)"}, {"48 f7 da", "negq %rdx"},
		{"fe c2", "incb %dl"}, {"ff c2", "incl %edx"}, {"49 ff c2", "incq %r10"}, {"fe ca", "decb %dl"}, {"ff ca", "decl %edx"}, {"48 ff 0a", "decq (%rdx)"},
		{"c0 e0 01", "shlb $1, %al"}, {"c1 e8 1f", "shrl $31, %eax"}, {"48 c1 38 3f", "sarq $63, (%rax)"}, {"d2 f8", "sarb %cl, %al"}, {"41 d3 e8", "shrl %cl, %r8d"}, {"48 d3 e2", "shlq %cl, %rdx"},
		{"50", "pushq %rax"}, {"41 54", "pushq %r12"}, {"ff 30", "pushq (%rax)"}, {"41 ff 30", "pushq (%r8)"}, {"6a 80", "pushq $-128"}, {"68 7f ff ff ff", "pushq $-129"},
		{"5d", "popq %rbp"}, {"41 5f", "popq %r15"}, {"8f 00", "popq (%rax)"},
		{"e8 fb ff ff ff", "call .-5"}, {"ff d0", "call *%rax"}, {"41 ff d0", "call *%r8"}, {"ff 10", "call *(%rax)"},
		{"eb fe", "jmp short .-2"}, {"e9 fe ff ff ff", "jmp .-2"}, {"ff e0", "jmp *%rax"}, {"41 ff 65 00", "jmp *(%r13)"},
		{"7f 7f", "jg short .+127"}, {"75 05", "jne short .+5"}, {"0f 8f 7f 00 00 00", "jg .+127"}, {"0f 80 00 00 00 80", "jo .-2147483648"},
		{"0f 95 c0", "setne %al"}, {"41 0f 90 00", "seto (%r8)"}, {"49 0f 4f c0", "cmovgq %r8, %rax"}, {"0f 40 00", "cmovol (%rax), %eax"},
		{"4c 0f b6 c0", "movzbq %al, %r8"}, {"40 0f b6 c7", "movzbl %dil, %eax"}, {"0f be 00", "movsbl (%rax), %eax"}, {"48 0f be 00", "movsbq (%rax), %rax"},
		{"87 c0", "xchgl %eax, %eax"}, {"4c 87 08", "xchgq %r9, (%rax)"},
		{"c3", "ret"}, {"c9", "leave"}, {"48 99", "cqto"}, {"0f 0b", "ud2"}, {"0f 05", "syscall"},
		{"64 48 8b 04 25 00 00 00 00", "movq %fs:0, %rax"}, {"64 c7 04 25 f8 ff ff ff 02 00 00 00", "movl $2, %fs:-8"}, {"64 0f b6 04 25 01 00 00 00", "movzbl %fs:1, %eax"}, {"64 40 88 34 25 00 00 00 00", "movb %sil, %fs:0"},
		{"43 88 74 a5 00", "movb %sil, (%r13,%r12,4)"},
	})
}

// TestP502AllOperands: all ops, sizes, conditions and sample operands: the instruction, with nothing and with anything behind; and of each of its beginnings that bytes are missing.
func TestP502AllOperands(t *testing.T) {
	count := 0
	eachInstruction(func(i api.Inst) {
		b := bytesOf(t, i)
		checkOne(t, b, i, len(b), api.OK)
		checkOne(t, append(b[:len(b):len(b)], 0x64, 0xff, 0), i, len(b), api.OK)
		for k := range b {
			checkOne(t, b[:k], api.Inst{}, 0, api.ErrEnd)
		}
		count++
	})
	if count < 30000 {
		t.Errorf("%d instructions", count)
	}
}

// TestP502Memory: each Base, Index, Scale and displacement, read, written, and ahead of numbers.
func TestP502Memory(t *testing.T) {
	for _, n := range displacements() {
		for _, m := range append(shapes(n), rip(n), fs(n)) {
			for _, i := range []api.Inst{
				inst(api.Mov, 8, reg(9), m), inst(api.Mov, 1, m, reg(6)), inst(api.Mov, 4, m, imm(-2)), inst(api.Add, 8, m, imm(127)), inst(api.Push, 8, api.Operand{}, m), inst(api.Imul, 4, reg(0), m),
			} {
				b := bytesOf(t, i)
				checkOne(t, b, i, len(b), api.OK)
				checkOne(t, b[:len(b)-1], api.Inst{}, 0, api.ErrEnd)
			}
		}
	}
}

func TestP502Range(t *testing.T) {
	b := raw("90 50")
	for _, at := range []int{math.MinInt, -3, -2, -1, 3, 4, math.MaxInt} {
		if i, n, e := decode.One(b, at); i != (api.Inst{}) || n != 0 || e != api.ErrRange {
			t.Errorf("One at %d: %+v, %d, %d", at, i, n, e)
		}
	}
	for at, want := range []api.Errno{api.OK, api.OK, api.ErrEnd} {
		if _, n, e := decode.One(b, at); e != want || n != 1 && e == api.OK {
			t.Errorf("One at %d: %d, %d", at, n, e)
		}
	}
	for at, want := range map[int]api.Errno{-1: api.ErrRange, 0: api.ErrEnd, 1: api.ErrRange} {
		if _, _, e := decode.One(nil, at); e != want {
			t.Errorf("One of nothing at %d: %d; want %d", at, e, want)
		}
	}
}

// TestP502RexNotNeeded: each bit of REX, and none, where no register and no size has it.
func TestP502RexNotNeeded(t *testing.T) {
	checkError(t, api.ErrForm,
		"40 90", "48 90", "41 90", "40 c3", "48 c3", "40 c9", "48 c9", "48 0f 05", "41 0f 0b", "99", "40 99", "49 99", "4c 99", "4a 99",
		"40 50", "48 50", "44 50", "42 50", "49 50", "40 58", "48 58", "44 58", "42 58",
		"40 6a", "48 6a", "40 68", "48 68", "40 70", "48 75", "40 e8", "48 e8", "41 e9", "40 eb", "40 0f 85", "48 0f 85",
		"40 89", "40 8b", "40 8d", "40 87", "40 01", "40 03", "40 81", "40 83", "40 c7", "40 c6", "40 ff", "40 f7", "40 8f", "40 c1", "40 d3", "40 0f af", "40 0f 44",
		"48 88", "48 8a", "48 00", "48 02", "48 84", "48 80", "48 c6", "48 f6", "48 fe", "48 c0", "48 d2", "48 0f 90", "48 b0", "48 8f",
		"44 80", "44 81", "44 83", "44 c7", "44 c6", "44 f6", "44 f7", "44 fe", "44 ff", "44 c1", "44 d3", "44 8f", "44 0f 90", "44 b0", "42 b0", "44 b8", "42 b8",
		"40 88 c0", "40 88 d8", "40 88 00", "40 8a 00", "40 b0", "40 b3", "40 80 c0", "40 80 20", "40 f6 c3", "40 fe 04", "40 d2 e1", "40 0f 90 c3", "40 0f 94 24", "40 0f b6 e0", "40 0f b6 20",
		"42 88 c0", "42 89 c0", "42 8b 00", "42 8b 05", "42 8b 43", "42 0f b6 c0", "41 8b 05", "42 ff d0", "43 8b 05", "43 89 00",
		"48 ff d0", "48 ff 10", "48 ff 14", "48 ff e0", "48 ff 24", "48 ff 30", "48 ff 34",
		"40 40", "48 48 89 c3", "40 64", "48 64 8b", "66 90", "f3 c3", "f0 01 08", "64 64",
	)
	checkTold(t, []told{
		{"40 88 c4", "movb %al, %spl"}, {"40 88 f8", "movb %dil, %al"}, {"41 88 e8", "movb %bpl, %r8b"}, {"44 88 c4", "movb %r8b, %spl"},
		{"40 8a 30", "movb (%rax), %sil"}, {"40 b5 00", "movb $0, %bpl"}, {"41 b5 00", "movb $0, %r13b"}, {"40 80 c6 00", "addb $0, %sil"},
		{"40 d2 e7", "shlb %cl, %dil"}, {"40 fe c4", "incb %spl"}, {"40 0f 94 c4", "sete %spl"}, {"48 0f be c4", "movsbq %spl, %rax"}, {"0f b6 fb", "movzbl %bl, %edi"},
		{"42 8b 04 20", "movl (%rax,%r12,1), %eax"},
	})
}

// TestP502RexNeeded: registers of one byte from 4 to 7 are others without a REX.
func TestP502RexNeeded(t *testing.T) {
	checkError(t, api.ErrForm, "88 c4", "88 e0", "8a 20", "00 e0", "84 ff", "b4 00", "b7", "80 c4", "80 c7 00", "f6 c5 01", "f6 d6", "fe c7", "c0 e4 01", "d2 e4", "0f 90 c4", "0f b6 c4", "0f be c7")
	checkTold(t, []told{{"0f b6 e0", "movzbl %al, %esp"}, {"89 e4", "movl %esp, %esp"}, {"d3 e4", "shll %cl, %esp"}, {"54", "pushq %rsp"}})
}

// TestP502ShorterNumbers: a number that has a shorter opcode stands in no longer one; up to its last byte it may yet be long.
func TestP502ShorterNumbers(t *testing.T) {
	checkError(t, api.ErrForm,
		"81 c0 00 00 00 00", "81 c0 7f 00 00 00", "81 c0 80 ff ff ff", "81 c0 ff ff ff ff", "48 81 c0 80 ff ff ff", "48 81 c0 7f 00 00 00", "81 00 7f 00 00 00", "81 78 01 00 00 00 00",
		"68 00 00 00 00", "68 7f 00 00 00", "68 80 ff ff ff",
		"48 b8 00 00 00 00 00 00 00 00", "48 b8 ff ff ff 7f 00 00 00 00", "48 b8 00 00 00 80 ff ff ff ff", "49 bf ff ff ff ff ff ff ff ff",
		"c6 c0 01", "c7 c0 01 00 00 00", "41 c7 c0", "ff f0", "ff f4", "8f c0",
	)
	checkError(t, api.ErrEnd, "81 c0 00 00 00", "68 ff ff ff", "48 b8 00 00 00 00 00 00 00", "48 b8 ff ff ff ff ff ff ff")
	checkTold(t, []told{
		{"81 c0 80 00 00 00", "addl $128, %eax"}, {"81 c0 7f ff ff ff", "addl $-129, %eax"}, {"81 c0 00 00 00 80", "addl $-2147483648, %eax"}, {"48 81 c0 ff ff ff 7f", "addq $2147483647, %rax"},
		{"83 c0 7f", "addl $127, %eax"}, {"48 83 c0 80", "addq $-128, %rax"}, {"68 80 00 00 00", "pushq $128"}, {"6a 7f", "pushq $127"},
		{"48 b8 00 00 00 80 00 00 00 00", "movq $2147483648, %rax"}, {"48 b8 ff ff ff 7f ff ff ff ff", "movq $-2147483649, %rax"}, {"48 b8 00 00 00 00 00 00 00 80", "movq $-9223372036854775808, %rax"}, {"48 b8 ff ff ff ff ff ff ff 7f", "movq $9223372036854775807, %rax"},
		{"48 c7 c0 ff ff ff 7f", "movq $2147483647, %rax"}, {"48 c7 c0 00 00 00 80", "movq $-2147483648, %rax"},
		{"b8 ff ff ff ff", "movl $-1, %eax"}, {"b8 00 00 00 80", "movl $-2147483648, %eax"}, {"b8 ff ff ff 7f", "movl $2147483647, %eax"}, {"b8 00 00 00 00", "movl $0, %eax"},
		{"b0 80", "movb $-128, %al"}, {"b0 7f", "movb $127, %al"}, {"80 c0 80", "addb $-128, %al"}, {"80 c0 7f", "addb $127, %al"}, {"f6 c0 ff", "testb $-1, %al"}, {"c6 00 80", "movb $-128, (%rax)"},
		{"f7 c0 00 00 00 00", "testl $0, %eax"}, {"48 f7 c0 00 00 00 80", "testq $-2147483648, %rax"}, {"c7 00 00 00 00 80", "movl $-2147483648, (%rax)"}, {"48 c7 00 ff ff ff ff", "movq $-1, (%rax)"},
	})
}

func TestP502Counts(t *testing.T) {
	checkTold(t, []told{{"c0 e0 00", "shlb $0, %al"}, {"c0 e0 1f", "shlb $31, %al"}, {"c1 e8 00", "shrl $0, %eax"}, {"48 c1 f8 3f", "sarq $63, %rax"}, {"c1 78 05 1f", "sarl $31, 5(%rax)"}})
	checkError(t, api.ErrForm, "c0 e0 20", "c1 e0 20", "c1 e0 3f", "48 c1 e0 40", "48 c1 e0 ff", "c1 e0 80", "c0 e0 ff", "d0 e0", "d1 e0", "48 d1 e0", "d1 f8")
	checkError(t, api.ErrEnd, "c0 e0", "c1 78 05")
}

// TestP502Displacements: with a Base any number may stand in 4 bytes; one of 1 byte stands there only if it is not 0, or has to.
func TestP502Displacements(t *testing.T) {
	checkTold(t, []told{
		{"8b 80 00 00 00 00", "movl (%rax), %eax"}, {"8b 80 7f 00 00 00", "movl 127(%rax), %eax"}, {"8b 80 80 ff ff ff", "movl -128(%rax), %eax"}, {"8b 80 80 00 00 00", "movl 128(%rax), %eax"}, {"8b 80 00 00 00 80", "movl -2147483648(%rax), %eax"}, {"8b 80 ff ff ff 7f", "movl 2147483647(%rax), %eax"},
		{"8b 85 00 00 00 00", "movl (%rbp), %eax"}, {"8b 84 24 08 00 00 00", "movl 8(%rsp), %eax"}, {"41 8b 84 24 00 00 00 00", "movl (%r12), %eax"}, {"8b 84 88 00 00 00 00", "movl (%rax,%rcx,4), %eax"}, {"8b 84 8d 01 00 00 00", "movl 1(%rbp,%rcx,4), %eax"},
		{"c7 80 00 00 00 00 05 00 00 00", "movl $5, (%rax)"}, {"ff b0 01 00 00 00", "pushq 1(%rax)"},
		{"8b 45 00", "movl (%rbp), %eax"}, {"41 8b 45 00", "movl (%r13), %eax"}, {"8b 44 05 00", "movl (%rbp,%rax,1), %eax"}, {"8b 40 80", "movl -128(%rax), %eax"}, {"8b 44 24 7f", "movl 127(%rsp), %eax"},
		{"8b 05 00 00 00 00", "movl (%rip), %eax"}, {"8b 05 7f 00 00 00", "movl 127(%rip), %eax"}, {"64 8b 04 25 7f 00 00 00", "movl %fs:127, %eax"},
	})
	checkError(t, api.ErrForm, "8b 40 00", "8b 44 24 00", "41 8b 44 24 00", "8b 44 88 00", "ff 70 00", "c7 40 00 05 00 00 00", "83 40 00 01", "64 8b 44 25 08", "64 8b 84 25 08 00 00 00")
	checkError(t, api.ErrEnd, "8b 40", "8b 44 24", "8b 80 00 00 00", "8b 05 00 00 00", "c7 80 00 00 00 00 05 00 00")
}

// TestP502Places: a ModRM, a SIB or a scale that encode does not write.
func TestP502Places(t *testing.T) {
	checkError(t, api.ErrForm,
		"8b c0", "8a c0", "03 c0", "02 c0", "3b c0", "8d c0", "48 8d c7", "8f c0", "8f 08", "8f 38", "c6 08", "c7 08", "c7 78",
		"80 c4", "c0 f0", "c1 f0", "d2 f0", "d3 30", "f6 08", "f6 c8 01", "f7 c8", "f6 e0", "f7 e8", "f7 f0", "f7 38", "fe d0", "fe 10", "fe f8", "ff d8", "ff 18", "ff e8", "ff 28", "ff f8", "ff 38", "ff 3c",
		"0f 90 c8", "0f 9f 38", "0f 95 0c", "ff 0c 25", "ff 1c",
		"8b 04 25", "8b 04 e0 00", "8b 04 64", "8b 04 a4", "8b 04 e4", "8b 04 20", "8b 44 20 01", "8b 44 25 01", "8b 44 65 01", "8b 84 a5", "41 8b 04 25", "41 8b 04 64", "42 8b 04 25", "43 8b 04 25", "8b 04 05", "8b 04 2d", "8b 04 c5", "41 8b 04 05",
	)
	checkTold(t, []told{
		{"8b 04 24", "movl (%rsp), %eax"}, {"41 8b 04 24", "movl (%r12), %eax"}, {"42 8b 04 24", "movl (%rsp,%r12,1), %eax"}, {"42 8b 04 64", "movl (%rsp,%r12,2), %eax"}, {"43 8b 04 e4", "movl (%r12,%r12,8), %eax"},
		{"8b 04 00", "movl (%rax,%rax,1), %eax"}, {"8b 04 c7", "movl (%rdi,%rax,8), %eax"}, {"46 8b 3c bf", "movl (%rdi,%r15,4), %r15d"},
	})
}

// TestP502Fs: the byte stands ahead of memory of the thread's base alone, and that memory has it.
func TestP502Fs(t *testing.T) {
	checkTold(t, []told{
		{"64 8a 04 25 00 00 00 00", "movb %fs:0, %al"}, {"64 4c 8b 3c 25 ff ff ff ff", "movq %fs:-1, %r15"}, {"64 44 00 04 25 01 00 00 00", "addb %r8b, %fs:1"}, {"64 8f 04 25 00 00 00 00", "popq %fs:0"}, {"64 ff 14 25 08 00 00 00", "call *%fs:8"}, {"64 ff 34 25 08 00 00 00", "pushq %fs:8"}, {"64 0f 95 04 25 00 00 00 00", "setne %fs:0"}, {"64 48 0f af 04 25 00 00 00 00", "imulq %fs:0, %rax"},
	})
	checkError(t, api.ErrForm,
		"64 90", "64 c3", "64 50", "64 58", "64 6a", "64 68", "64 70", "64 e8", "64 e9", "64 eb", "64 b0", "64 b8", "64 99", "64 48 99", "64 0f 05", "64 0f 0b", "64 0f 84", "64 06", "64 8d", "64 48 8d", "64 64",
		"64 41", "64 42", "64 43", "64 45", "64 46", "64 49", "64 4f", "64 40 0f", "64 40 fe", "64 40 80", "64 40 f6", "64 40 8b", "64 40 88 04", "64 40 8a 1c", "64 40 8a c4",
		"64 89 c0", "64 8b 00", "64 8b 05", "64 8b 40", "64 8b 44", "64 8b 84", "64 8b 04 24", "64 8b 04 20", "64 8b 04 65", "64 8b 04 2d", "64 8b 04 05", "8b 04 25", "65 8b 04 25",
	)
	checkError(t, api.ErrEnd, "64", "64 40", "64 44", "64 48", "64 4c", "64 0f", "64 44 0f", "64 48 0f", "64 8b", "64 40 8a", "64 40 8a 24", "64 8b 04", "64 8b 04 25", "64 8b 04 25 00 00 00", "64 c7 04 25 00 00 00 00 01 00 00")
}

// TestP502WrongBytes: opcodes that no instruction begins with, whatever follows.
func TestP502WrongBytes(t *testing.T) {
	known := map[byte]bool{0x0f: true, 0x64: true, 0x68: true, 0x6a: true, 0x80: true, 0x81: true, 0x83: true, 0x84: true, 0x85: true, 0x8d: true, 0x8f: true, 0x90: true, 0xc0: true, 0xc1: true, 0xc3: true, 0xc6: true, 0xc7: true, 0xc9: true, 0xd2: true, 0xd3: true, 0xe8: true, 0xe9: true, 0xeb: true, 0xf6: true, 0xf7: true, 0xfe: true, 0xff: true}
	for x := range 256 {
		is := known[byte(x)] || x < 0x40 && x&4 == 0 || x&0xf0 == 0x40 || x&0xf0 == 0x50 || x&0xf0 == 0x70 || x >= 0x87 && x <= 0x8b || x&0xf0 == 0xb0
		for _, behind := range []string{"", "00", "c0 c0 c0 c0 c0 c0 c0 c0 c0 c0 c0 c0 c0 c0 c0"} {
			b := append([]byte{byte(x)}, raw(behind)...)
			if _, _, e := decode.One(b, 0); !is && e != api.ErrForm || is && behind == "" && x != 0x90 && x != 0xc3 && x != 0xc9 && x&0xf0 != 0x50 && x&0xfc != 0xb4 && e != api.ErrEnd {
				t.Errorf("One(% x): %d", b, e)
			}
		}
	}
	for x := range 256 {
		is := x == 5 || x == 11 || x == 0xaf || x == 0xb6 || x == 0xbe || x&0xf0 == 0x40 || x&0xf0 == 0x80 || x&0xf0 == 0x90
		if _, _, e := decode.One([]byte{0x0f, byte(x)}, 0); is == (e == api.ErrForm) {
			t.Errorf("One(0f %02x): %d", x, e)
		}
	}
}
