package object_test

import (
	"strconv"
	"strings"
	"testing"

	"gangway/api"
	"gangway/object"
	"gangway/parse"
)

// atLine: the statements ahead stand on three lines, and what is wrong on the fourth.
func atLine(t *testing.T, e api.Errno, ahead string, wrong ...string) {
	t.Helper()
	for _, text := range wrong {
		refused(t, 4, e, "# first\n"+ahead+"\n\n"+text+"\n", "# first\n"+ahead+"\n\n"+text+"\nfoo:\n.zero 9\n", ahead+"\n\n\n"+text)
	}
}

// atEnd: what is wrong comes up when all statements are done.
func atEnd(t *testing.T, e api.Errno, texts ...string) {
	t.Helper()
	for _, text := range texts {
		refused(t, 0, e, text, "\n# x\n"+text+"\n")
	}
}

func TestP1702Parse(t *testing.T) {
	refused(t, 2, api.ErrToken, "nop\n?", "foo\n?", ".data; nop\n?")
	refused(t, 2, api.ErrSyntax, "nop\nfoo", "a: a:\nfoo\n", ".data; nop\n movq %eax, %rbx")
	refused(t, 3, api.ErrExpr, "nop\n\n.byte 1 +")
	refused(t, 1, api.ErrForm, "movb $256, %al", "nop; movb $256, %al")
	refused(t, 0, api.ErrSize, strings.Repeat("\n", api.MaxLines+1), strings.Repeat(" ", api.MaxText+1), "?"+strings.Repeat(" ", api.MaxText))
	for _, text := range []string{"?", "nop\nfoo", ".set a, 1; .set a, 2", strings.Repeat("\n", api.MaxLines+1)} {
		_, line, e := parse.All(text)
		refused(t, line, e, text)
	}
}

func TestP1702Labels(t *testing.T) {
	atLine(t, api.ErrLabel, "a: nop", "a:", "a: nop", "b: a:", "nop; a:", ".data; a:", ".data; nop: a: nop")
	atLine(t, api.ErrLabel, ".text; a: .bss; b: .data; c:", "b:", "a:", "c:", ".text; c:", ".bss; a:")
	accepted(t, "a: b: A: .a: _a: a.:", ".data; a: .text; b:", "nop: nop", ".set a, 5; a: nop", ".globl a; .globl a; a:")
}

func TestP1702Code(t *testing.T) {
	atLine(t, api.ErrType, ".data", "nop", "ret", "a: call b", ".text; .data; nop")
	for _, section := range []string{".data", ".bss", ".rodata", ".section .tdata", ".section .tbss", ".section .init_array", ".section x", ".section .text, \"aw\"", ".section .x, \"\", @nobits", ".section .x, \"ax\", @nobits", ".section .x, \"awT\""} {
		atLine(t, api.ErrType, section, "nop", "jmp a", "x: ret")
		accepted(t, section, section+"; a:")
	}
	accepted(t, "nop", ".text; nop", ".data; .text; nop", ".section .x, \"x\"; nop", ".section .x, \"axw\"; nop", ".section .init_array, \"ax\", @init_array; nop", ".section .data, \"axT\"; nop")
}

func TestP1702Sections(t *testing.T) {
	atLine(t, api.ErrType, ".data", ".section .data, \"a\"", ".section .data, \"aw\", @nobits", ".section .data, \"awx\"", ".section .data, \"\"", ".section .data, \"aw\", @init_array")
	atLine(t, api.ErrType, ".section x", ".section x, \"a\"", ".section x, \"\", @fini_array")
	atLine(t, api.ErrType, ".section .text, \"a\"", ".text", ".section .text", ".section .text, \"ax\"", ".data; .text")
	// What puts something into .text makes it be there; nothing else does.
	for _, put := range []string{"a:", "nop", ".byte 1", ".ascii \"\"", ".balign 1", ".zero 0", ".tlsgd a", ".tlsld", ".text", ".section .text"} {
		atLine(t, api.ErrType, put, ".section .text, \"a\"", ".section .text, \"ax\", @nobits", ".section .text, \"x\"")
	}
	for _, told := range []string{"", ".globl a", ".type a, @object", ".size a, 1", ".set a, 1", ".file 1 \"a\"", ".file 1 \"a\"; .loc 1 1", ".cfi_startproc; .cfi_endproc", ".cfi_startproc; .cfi_restore 1; .cfi_endproc"} {
		accepted(t, told+"\n.section .text, \"a\"", told+"\n.section .text, \"\"; .byte 1; .section .text, \"\"")
	}
	accepted(t, ".data; .text; .section .data, \"wa\"; .section .data, \"aw\", @progbits; .section .data; .section .text, \"xa\"")
	accepted(t, ".section x, \"ax\"; .section y, \"a\"; .section x, \"xa\"")
}

func TestP1702Data(t *testing.T) {
	for _, c := range []struct {
		name      string
		low, high string
		under     string
		over      string
	}{{".byte", "-128", "255", "-129", "256"}, {".long", "-0x80000000", "0xffffffff", "-0x80000001", "0x100000000"}} {
		for _, section := range []string{".text", ".data", ".section x", ".section .x, \"axT\""} {
			accepted(t, section+";"+c.name+" "+c.low+", "+c.high+", 0, 1, -1")
			for _, n := range []string{c.under, c.over, "0x7fffffffffffffff", "-0x7fffffffffffffff", "0x8000000000000000"} {
				atLine(t, api.ErrRange, section, c.name+" "+n, c.name+" 1, "+n, c.name+" "+n+", 1", c.name+" x, "+n, c.name+" x - y, "+n)
			}
		}
	}
	accepted(t, ".quad 0x7fffffffffffffff, 0x8000000000000000, 0xffffffffffffffff, -0x7fffffffffffffff, -1, 0")
	// The number must fit ahead of all else.
	atLine(t, api.ErrRange, ".bss", ".byte 256", ".byte 1, 256", ".byte x, 256")
}

// TestP1702NoBits: what may stand where there are no bytes.
func TestP1702NoBits(t *testing.T) {
	for _, section := range []string{".bss", ".section .tbss", ".section x, \"\", @nobits", ".section x, \"ax\", @nobits", ".section x, \"awxT\", @nobits"} {
		atLine(t, api.ErrType, section, "nop", ".quad 1", ".byte -1", ".byte 0, 1", ".byte 1, 0", ".long 0, 0, 7, 0", ".quad x", ".quad x - y", ".quad 0, -x", ".ascii \"\"", ".ascii \"a\"", ".asciz \"\"", ".ascii \"\\0\"", ".balign 4, 1", ".balign 1, 255", ".zero 0, 1", ".zero 9, 255", ".tlsgd a", ".tlsld", ".text; "+section+"; .byte 1")
		accepted(t, section+"; a: .byte 0; b: .long 0, 0; .quad x - x, 5 - 5; .balign 4; .balign 16, 0; .zero 9; .zero 0, 0; c: d: .zero 1048, 0", section+"; .globl a; .type a, @object; .size a, 5; .set b, 5; .file 1 \"a\"; .text; .byte 1")
	}
	// Where it is an Exec one, procedures and lines may be there.
	accepted(t, ".section x, \"ax\", @nobits; .file 1 \"a\"; .loc 1 1; .cfi_startproc; .zero 9; .cfi_def_cfa_offset 16; .cfi_endproc")
}

func TestP1702Procedures(t *testing.T) {
	atLine(t, api.ErrCfa, ".cfi_startproc", ".cfi_startproc", "nop; .cfi_startproc", ".data; .cfi_startproc", ".section .x, \"ax\"; .cfi_startproc")
	atLine(t, api.ErrCfa, "nop", ".cfi_endproc", ".cfi_startproc; .cfi_endproc; .cfi_endproc", ".data; .cfi_endproc", ".data; .cfi_startproc", ".bss; .cfi_startproc", ".section .text.x, \"a\"; .cfi_startproc")
	atLine(t, api.ErrCfa, ".cfi_startproc; nop", ".data; .cfi_endproc", ".section .x, \"ax\"; .cfi_endproc")
	others := []string{"remember_state", "restore_state", "def_cfa 7, 8", "offset 3, -16", "rel_offset 3, 0", "def_cfa_offset 8", "adjust_cfa_offset 8", "def_cfa_register 6", "restore 3", "undefined 3", "same_value 3"}
	for _, other := range others {
		atLine(t, api.ErrCfa, "nop", ".cfi_"+other, ".cfi_startproc; .cfi_endproc; .cfi_"+other, ".data; .cfi_"+other)
		atLine(t, api.ErrCfa, ".cfi_startproc", ".data; .cfi_"+other, ".section .x, \"ax\"; .cfi_"+other)
	}
	for _, other := range others {
		if other != "restore_state" {
			accepted(t, ".cfi_startproc; .data; .text; .cfi_"+other+"; .section x; .section .text; .cfi_endproc")
		}
	}
	// One that does not end is told by the line where it begins, when all statements are done.
	refused(t, 2, api.ErrCfa, "nop\n.cfi_startproc\nnop", "nop\n.cfi_startproc\nnop\n.data\na:\n.byte x\n", ".cfi_startproc; .cfi_endproc\n nop; .cfi_startproc\n\n", "nop\n.cfi_startproc\n.cfi_restore_state\n")
	refused(t, 4, api.ErrCfa, ".cfi_startproc\nnop\n.cfi_endproc\n.cfi_startproc\nnop\n")
	refused(t, 3, api.ErrLabel, ".cfi_startproc\na:\na:\n")
}

func TestP1702Files(t *testing.T) {
	atLine(t, api.ErrLine, ".file 1 \"a\"", ".file 1 \"b\"", ".file 1 \"A\"", ".file 1 \"aa\"", ".file 1 \"a\"; .file 2 \"b\"; .file 1 \"b\"")
	atLine(t, api.ErrLine, ".file 255 \"a\"", ".file 255 \"b\"")
	accepted(t, ".file 1 \"a\"; .file 1 \"a\"; .file 2 \"a\"; .file 255 \"a\"; .file 2 \"a\"")
	atLine(t, api.ErrLine, "nop", ".loc 1 5", ".file 2 \"a\"; .loc 1 5", ".loc 255 1", ".data; .loc 1 5", ".bss; .loc 1 5", ".loc 1 5; .file 1 \"a\"")
	atLine(t, api.ErrType, ".file 1 \"a\"", ".data; .loc 1 5", ".bss; .loc 1 5", ".section x; .loc 1 5 6", ".section .text, \"a\"; .loc 1 5")
	accepted(t, ".file 1 \"a\"; .loc 1 5; .data; .text; .loc 1 0; .section .x, \"x\"; .loc 1 7 8; nop")
}

func TestP1702ThreadLocal(t *testing.T) {
	for _, section := range []string{".data", ".rodata", ".bss", ".section .tdata", ".section x", ".section .init_array", ".section .text, \"a\"", ".section x, \"\", @nobits"} {
		atLine(t, api.ErrType, section, ".tlsgd x", ".tlsld")
	}
	accepted(t, ".tlsgd x; .tlsld", ".section x, \"x\"; .tlsgd x; .tlsld")
}

// TestP1702First: the first statement that is wrong counts, whatever the error is; and what is wrong at the end comes behind all.
func TestP1702First(t *testing.T) {
	refused(t, 2, api.ErrLabel, "a:\na:\n.byte 256\n.data\nnop\n.cfi_endproc\n.loc 1 1\n")
	refused(t, 2, api.ErrRange, "a:\n.byte 256\na:\n.data\nnop\n")
	refused(t, 1, api.ErrCfa, ".cfi_endproc\n.loc 1 1\na:\na:\n")
	refused(t, 1, api.ErrLine, ".loc 1 1\n.cfi_endproc\n")
	refused(t, 3, api.ErrType, ".byte x\njmp short y\n.data; nop\n")
	refused(t, 3, api.ErrCfa, ".byte x\njmp short y\n.cfi_startproc\n")
}

// TestP1702Bytes: relax's errors, section by section, ahead of values with names in any of them.
func TestP1702Bytes(t *testing.T) {
	atEnd(t, api.ErrLabel, "jmp short a", ".data; .byte x; .text; jmp short a", ".section .x, \"x\"; jmp short a; .text; a:", "jmp short a; .section .x, \"x\"; jmp short b; .zero 200; b:")
	atEnd(t, api.ErrOverflow, "jmp short a; .zero 128; a:", "jmp short a; .zero 128; a: .section .x, \"x\"; jmp short b", ".data; .byte x; .text; leaq a+2147483647(%rip), %rax; nop; a:")
	atEnd(t, api.ErrSize, ".zero 1048576; nop", ".bss; .zero 1048576; .byte 0", ".data; .byte x; .bss; .zero 1048576; .zero 1", ".byte 0"+strings.Repeat(",0", 20000))
	atEnd(t, api.ErrSize, ".bss; .zero 1048576; .byte 0; .text; jmp short a")
	atEnd(t, api.ErrLabel, "jmp short a; .bss; .zero 1048576; .byte 0")
	accepted(t, ".zero 1048576", ".bss; .zero 1048576; .data; .zero 1048576", ".byte 0"+strings.Repeat(",0", 19999), "jmp short a; .zero 127; a:")
}

func TestP1702Values(t *testing.T) {
	atEnd(t, api.ErrReloc, ".byte x", ".byte x + 1", ".byte -x", ".long -x", ".quad -x", ".quad 5 - x", ".quad x - y", ".long x - y", ".byte x - y", ".data; x: .text; .quad y - x", ".quad x - y; x:", ".quad x - y; y:", "y: .quad x - y", ".byte x - y; y:", ".data; y: .text; .long x - y", ".data; y: .text; x: .long x - y", ".section .x, \"x\"; x: .text; y: .quad x - y", "x: .quad -x", "x: .long -x", "x: .long 5 - x")
	accepted(t, "y: .long x - y", ".long x - y; y:", ".quad x, x + 8, x - 8", ".long x, x - 1", "x: .quad x - x; .byte x - x", ".data; x: .zero 3; y: .text; .byte y - x; .long y - x; .quad x - y")
	// Section by section, in order: the first one that is wrong.
	atEnd(t, api.ErrRange, "a: .zero 300; b: .byte b - a, x", ".data; .text; .byte x; .data; a: .zero 300; b: .byte b - a")
	atEnd(t, api.ErrReloc, "a: .zero 300; b: .byte x, b - a", ".text; .data; a: .zero 300; b: .byte b - a; .text; .byte x")
}

// TestP1702Differences: of two labels, as numbers are.
func TestP1702Differences(t *testing.T) {
	apart := func(n int) string { return ".data; a: .zero " + strconv.Itoa(n) + "; b: " }
	accepted(t, apart(255)+".byte b - a", apart(128)+".byte a - b", apart(300)+".byte b - a - 45, a - b + 172", apart(300)+".byte b - a - 428", apart(300)+".byte a - b + 555")
	atEnd(t, api.ErrRange, apart(256)+".byte b - a", apart(129)+".byte a - b", apart(300)+".byte b - a - 44", apart(300)+".byte b - a - 429", apart(300)+".byte a - b + 556", apart(300)+".byte a - b + 171")
	accepted(t, apart(5)+".long b - a + 0xfffffffa", apart(5)+".long a - b - 0x7ffffffb", apart(5)+".text; .long b - a")
	atEnd(t, api.ErrRange, apart(5)+".long b - a + 0xfffffffb", apart(5)+".long a - b - 0x7ffffffc", apart(5)+".long a - b + 0x8000000000000000", apart(5)+".long b - a + 0x7fffffffffffffff", apart(5)+".byte b - a + 0x7fffffffffffffff", apart(5)+".byte a - b - 0x8000000000000000")
	// Of 8 bytes only what is below all ints does not fit.
	accepted(t, apart(5)+".quad b - a + 0x7fffffffffffffff", apart(5)+".quad a - b - 0x7ffffffffffffffb", apart(5)+".quad b - a - 0x8000000000000000", apart(0)+".quad b - a - 0x8000000000000000, b - a + 0x7fffffffffffffff")
	atEnd(t, api.ErrRange, apart(5)+".quad a - b - 0x7ffffffffffffffc", apart(1)+".quad a - b - 0x8000000000000000", apart(1)+".quad a - b + 0x8000000000000000")
}

func TestP1702Frames(t *testing.T) {
	wrong := []string{".cfi_restore_state", ".cfi_rel_offset 3, 1", ".cfi_offset 3, 4", ".cfi_def_cfa_offset -1", ".cfi_adjust_cfa_offset -9", strings.Repeat(".cfi_remember_state;", 65), ".cfi_remember_state; .cfi_restore_state; .cfi_restore_state"}
	for _, w := range wrong {
		atEnd(t, api.ErrCfa, ".cfi_startproc; nop;"+w+"; nop; .cfi_endproc", ".cfi_startproc; nop; .cfi_endproc; .cfi_startproc;"+w+"; .cfi_endproc")
	}
	atEnd(t, api.ErrType, ".section .eh_frame, \"a\"; .text; .cfi_startproc; .cfi_endproc", ".cfi_startproc; .cfi_restore_state; .cfi_endproc; .section .eh_frame", ".section .eh_frame, \"ax\"; .cfi_startproc; .cfi_endproc")
	accepted(t, ".section .eh_frame, \"a\"; .byte 1", ".cfi_startproc; .cfi_endproc; .section .eh_frame.x; .section .debug_line; .section eh_frame")
	events := func(n int) string {
		return ".cfi_startproc;" + strings.Repeat(".cfi_restore 1;", n) + ".cfi_endproc"
	}
	accepted(t, events(api.MaxRows-8))
	atEnd(t, api.ErrSize, events(api.MaxRows-7), events(api.MaxRows), events(api.MaxRows+1))
	// Values with names come ahead, lines behind.
	atEnd(t, api.ErrReloc, ".byte x; .cfi_startproc; .cfi_restore_state; .cfi_endproc")
	atEnd(t, api.ErrCfa, ".cfi_startproc; .cfi_restore_state; .cfi_endproc; .section .debug_line; .text; .file 1 \"a\"; .loc 1 1")
	atEnd(t, api.ErrCfa, ".cfi_startproc; .cfi_restore_state; .cfi_endproc; .size x, y; x:")
}

func TestP1702Lines(t *testing.T) {
	atEnd(t, api.ErrType, ".section .debug_line; .text; .file 1 \"a\"; .loc 1 1", ".file 2 \"a\"; .loc 2 1; .section .debug_line", ".file 1 \"a\"; .loc 1 1; .section .debug_line, \"a\"")
	atEnd(t, api.ErrLine, ".file 2 \"a\"; .loc 2 1", ".file 1 \"a\"; .file 3 \"c\"; .loc 1 1", ".file 1 \"a\"; .loc 1 1; .file 255 \"c\"", ".file 1 \"a\"; .file 2 \"b\"; .file 4 \"d\"; .loc 4 1")
	accepted(t, ".file 2 \"a\"", ".file 1 \"a\"; .file 3 \"c\"; nop", ".file 2 \"b\"; .file 1 \"a\"; .loc 2 1", ".section .debug_line; .file 1 \"a\"; .text; nop", ".file 1 \"a\"; .loc 1 1; .section .debug_lines; .section debug_line")
	locs := func(n int) string { return ".file 1 \"a\";" + strings.Repeat(".loc 1 1;", n) }
	accepted(t, locs(api.MaxRows))
	atEnd(t, api.ErrLine, locs(api.MaxRows+1))
	// Symbols come behind, and so does how many sections there are.
	atEnd(t, api.ErrLine, ".file 2 \"a\"; .loc 2 1; .size x, y; x:", ".file 2 \"a\"; .loc 2 1; .text: nop")
	sections := func(n int) string {
		return ".file 1 \"a\";" + rows(n, func(k int) string { return ".section x" + strconv.Itoa(k) + ", \"x\"; .loc 1 1;" })
	}
	atEnd(t, api.ErrLine, sections(65))
	atEnd(t, api.ErrSize, sections(64))
}

func TestP1702Symbols(t *testing.T) {
	atEnd(t, api.ErrLabel, ".cfi_startproc; .text: nop; .cfi_endproc", ".file 1 \"a\"; .loc 1 1; .data; .text: .text; nop", ".section x, \"x\"; .cfi_startproc; .cfi_endproc; .data; x:", ".section x, \"x\"; .file 1 \"a\"; .loc 1 1; x:", ".cfi_startproc; .text: .size .text, y; .cfi_endproc", ".size a, y; a: .cfi_startproc; .text: .cfi_endproc")
	accepted(t, ".text: nop", ".data: nop; .cfi_startproc; .cfi_endproc", ".eh_frame: .cfi_startproc; .cfi_endproc", ".debug_line: .file 1 \"a\"; .loc 1 1", ".data; .text: .text; nop")
	atEnd(t, api.ErrExpr, "a: .size a, -1", "a: .size a, b", "a: .size a, a", "a: b: .size a, b", "a: .size a, -a", "a: .size a, . - a", "a: .size a, b - a", "a: .size a, a - b", ".data; b: .text; a: .size a, b - a", ".size a, b - a; a: .zero 5; .data; b:", "a: nop; b: .size a, a - b", "a: nop; b: .size a, b - a - 2", "a: .size a, 1; .size a, -1", "a: .size a, 0x8000000000000000", "a: nop; b: .size a, a - b - 0x8000000000000000", "a: nop; b: .size b, a - b + 0x8000000000000000")
	accepted(t, "a: .size a, 0", "a: .size a, -1; .size a, 1", ".size a, y", ".size a, -1; .globl a", "a: nop; b: .size a, b - a - 1; .size b, a - b + 1", "a: .size a, 0x4000000000000000", "call a; .size a, b")
}

// TestP1702Elf: what symbols, sections and relocations may not be.
func TestP1702Elf(t *testing.T) {
	atEnd(t, api.ErrSymbol, ".local x; call x", ".globl x; .local x; .quad x", "a: .size a, 0x4000000000000001", "a: .size a, 0x7fffffffffffffff", "a: nop; b: .size a, b - a + 0x7fffffffffffffff")
	atEnd(t, api.ErrElf, ".section .rela, \"a\"", ".section .rela.text", ".section .symtab", ".section .strtab", ".section .shstrtab", ".quad x + 0x4000000000000001", ".quad x - 0x4000000000000001", ".long x + 0x4000000000000001", "b: .long a - b + 0x4000000000000001", "b: .long a - b - 0x4000000000000001", "b: nop; .long a - b + 0x7fffffffffffffff", ".long a - b - 0x7fffffffffffffff - 1; nop; b:")
	accepted(t, ".quad x + 0x4000000000000000, x - 0x4000000000000000", ".long x + 0x4000000000000000", ".section .rel", "b: .long a - b + 0x4000000000000000", ".section .relx.text; .section rela")
	sections := func(n int) string {
		return rows(n, func(k int) string { return ".section x" + strconv.Itoa(k) + ";" })
	}
	accepted(t, sections(28), sections(27)+".text; nop", sections(25)+".text; .cfi_startproc; .cfi_endproc; .file 1 \"a\"; .loc 1 1")
	atEnd(t, api.ErrSize, sections(29), sections(65), sections(26)+".text; .cfi_startproc; .cfi_endproc; .file 1 \"a\"; .loc 1 1", sections(28)+".text; nop")
	// symtab.Check of names and symbols comes first.
	atEnd(t, api.ErrSymbol, sections(40)+".local x; .quad x")
	atEnd(t, api.ErrSize, sections(29)+".section .rela", sections(65)+".local x; .quad x")
	labels := func(n int) string {
		return rows(n, func(k int) string { return "a" + strconv.Itoa(k) + ":" })
	}
	accepted(t, labels(api.MaxSymbols), labels(api.MaxSymbols-1)+"call x")
	atEnd(t, api.ErrSize, labels(api.MaxSymbols+1), labels(api.MaxSymbols)+"call x", labels(api.MaxSymbols)+".globl x", labels(api.MaxSymbols)+".cfi_startproc; .cfi_endproc")
	relocs := func(n int) string { return strings.Repeat("call x;", n) }
	accepted(t, relocs(api.MaxRelocs), relocs(api.MaxRelocs-1)+".cfi_startproc; .cfi_endproc")
	atEnd(t, api.ErrSize, relocs(api.MaxRelocs+1), relocs(api.MaxRelocs)+".cfi_startproc; .cfi_endproc", relocs(api.MaxRelocs)+".data; .quad x", relocs(api.MaxRelocs-1)+".tlsld")
	// And all of it behind symbols.
	atEnd(t, api.ErrExpr, sections(29)+"a: .size a, y")
	atEnd(t, api.ErrLabel, ".section .rela, \"x\"; .cfi_startproc; .cfi_endproc; .rela:")
}

func TestP1702Parts(t *testing.T) {
	l := parted(t, "a: nop\n.balign 8\n")
	want := []object.Part{{Name: ".text", Type: api.ProgBits, Flags: api.Alloc | api.Exec}}
	want[0].Items = append(want[0].Items, mark("a"), inst("nop"), alignTo(8, 0))
	checkParts(t, l, want)
	// Sections in the order in which they are there, items in that in which they came; nothing of what was made.
	l = parted(t, ".globl a; .data; .byte 1, x - y, 258 - 3; a: .text; x: .tlsgd g; .cfi_startproc; call f; y: .cfi_endproc; .file 1 \"a.s\"; .loc 1 1; .data; .long -2; .ascii \"ab\", \"c\"; .asciz \"\"; .ascii \"\"; .section .empty; .bss; .zero 7; .long 0; .text; .tlsld; .balign 4, 9; .zero 3, 8; .quad z, 258")
	want = []object.Part{
		{Name: ".data", Type: api.ProgBits, Flags: api.Alloc | api.Write},
		{Name: ".text", Type: api.ProgBits, Flags: api.Alloc | api.Exec},
		{Name: ".empty", Type: api.ProgBits},
		{Name: ".bss", Type: api.NoBits, Flags: api.Alloc | api.Write},
	}
	want[0].Items = append(want[0].Items, raw(1), raw(0), raw(255), mark("a"), raw(254, 255, 255, 255), raw('a', 'b', 'c'), raw(0), raw())
	want[1].Items = append(want[1].Items, mark("x"), raw(102, 72, 141, 61, 0, 0, 0, 0, 102, 102, 72, 232, 0, 0, 0, 0), inst("call f"), mark("y"), raw(72, 141, 61, 0, 0, 0, 0, 232, 0, 0, 0, 0), alignTo(4, 9), space(3, 8), raw(0, 0, 0, 0, 0, 0, 0, 0), raw(2, 1, 0, 0, 0, 0, 0, 0))
	want[3].Items = append(want[3].Items, space(7, 0), raw(0, 0, 0, 0))
	checkParts(t, l, want)
	checkParts(t, parted(t, ""), nil)
	checkParts(t, parted(t, ".globl x; .file 1 \"a\"; .set y, 7"), nil)
}
