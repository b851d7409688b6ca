package object_test

import (
	"bytes"
	"slices"
	"strings"
	"testing"

	"gangway/api"
	"gangway/object"
)

func checkParts(t *testing.T, l, want []object.Part) {
	t.Helper()
	if !slices.EqualFunc(l, want, samePart) {
		t.Errorf("parts\n%s; want\n%s", short(l), short(want))
	}
}

func TestP1703Nothing(t *testing.T) {
	for _, text := range []string{"", "\n\n", "# x", ".set a, 5", ".file 1 \"a\"", ".size a, b", ".type a, @object", ".local a"} {
		if f := assembled(t, text); len(f.Sections) != 0 || len(f.Symbols) != 0 {
			t.Errorf("Assemble(%s): %s", text, short(f))
		}
	}
}

func TestP1703Examples(t *testing.T) {
	text := api.Section{Name: ".text", Type: api.ProgBits, Flags: 6, Align: 16, Data: []byte{144, 195}, Size: 2}
	want := api.File{Sections: []api.Section{text}, Symbols: []api.Symbol{local("f", ".text", 0)}}
	if f := assembled(t, "f: nop; ret"); !sameFile(f, want) {
		t.Error(f)
	}
	want.Symbols[0].Bind = api.Global
	if f := assembled(t, ".globl f; f: nop; ret"); !sameFile(f, want) {
		t.Error(f)
	}
	checkData(t, "call g", ".text", []byte{232, 0, 0, 0, 0}, reloc(1, api.RPc32, "g", -4))
	checkData(t, "call g@plt", ".text", []byte{232, 0, 0, 0, 0}, reloc(1, api.RPlt32, "g", -4))
	checkSymbols(t, "call g", outside("g"))
	checkData(t, ".data; x: .quad x + 8", ".data", make([]byte, 8), reloc(0, api.R64, "x", 8))
	refused(t, 1, api.ErrType, ".data; nop")
}

// TestP1703Order: a section is there from where it is chosen, or where something is put into .text.
func TestP1703Order(t *testing.T) {
	checkNames(t, ".data", ".data")
	checkNames(t, "nop; .data", ".text .data")
	checkNames(t, ".data; .text", ".data .text")
	checkNames(t, ".bss; .data; .bss; .section x; .data; .text; nop; .section y", ".bss .data x .text y")
	for _, put := range []string{"a:", "nop", ".byte 1", ".ascii \"\"", ".balign 1", ".zero 0", ".tlsgd a", ".tlsld", ".text", ".section .text"} {
		checkNames(t, put+"; .data; .text", ".text .data")
	}
	for _, told := range []string{".globl a", ".type a, @object", ".size a, 1", ".set a, 1", ".file 1 \"a\""} {
		checkNames(t, told+"; .data; .text", ".data .text")
		checkNames(t, told+"; .data", ".data")
	}
	checkNames(t, ".cfi_startproc; .data; .text; .cfi_endproc", ".data .text .eh_frame")
	checkNames(t, ".file 1 \"a\"; .loc 1 1; .data; .text; nop", ".data .text .debug_line")
	checkNames(t, ".file 1 \"a\"; .loc 1 1; .cfi_startproc; .cfi_endproc; .data", ".data .text .eh_frame .debug_line")
	checkNames(t, ".cfi_startproc; .cfi_endproc", ".text .eh_frame")
	checkNames(t, ".file 1 \"a\"; .loc 1 1", ".text .debug_line")
	checkNames(t, ".file 1 \"a\"; .loc 1 1; nop; .cfi_startproc; .cfi_endproc; .data", ".text .data .eh_frame .debug_line")
}

// TestP1703Kinds: Type and Flags as they were chosen, or the ones of .text.
func TestP1703Kinds(t *testing.T) {
	for _, c := range []struct {
		text        string
		kind, flags int
	}{
		{"nop", 1, 6}, {".text", 1, 6}, {".data", 1, 3}, {".rodata", 1, 2}, {".bss", 8, 3}, {".section .tdata", 1, 1027}, {".section .tbss", 8, 1027},
		{".section .init_array", 14, 3}, {".section .fini_array", 15, 3}, {".section x", 1, 0}, {".section .text, \"w\"", 1, 1}, {".section x, \"awxT\", @nobits", 8, 1031},
		{".cfi_startproc; .section .text, \"w\", @nobits; .cfi_endproc", 8, 1},
	} {
		if s := assembled(t, c.text).Sections[0]; s.Type != c.kind || s.Flags != c.flags || s.Size != len(s.Data) {
			t.Error(c.text, s)
		}
	}
}

func TestP1703Align(t *testing.T) {
	for _, c := range []struct {
		text  string
		align int
	}{
		{".data", 1}, {".data; .quad 1", 1}, {".data; .balign 1", 1}, {".data; .balign 8", 8}, {".data; .balign 8; .balign 2; .balign 16; .balign 4", 16}, {".data; .balign 4096, 1", 4096},
		{".data; .zero 64; .byte 32", 1}, {".bss; .balign 32", 32}, {".text", 16}, {"nop; .balign 8", 16}, {"nop; .balign 16", 16}, {"nop; .balign 32", 32}, {".section x, \"x\"", 16},
		{".section x, \"ax\", @nobits; .balign 2", 16}, {".section x, \"a\"; .balign 2", 2}, {".section x, \"awT\"; .balign 4; .text; .balign 64", 4}, {".section x, \"awT\"; .balign 4; .text; .balign 64; .section x, \"awT\"; .balign 8", 8},
	} {
		if s := assembled(t, c.text).Sections[0]; s.Align != c.align {
			t.Error(c.text, s.Align, c.align)
		}
	}
}

// TestP1703Data: each statement's bytes, one behind the other.
func TestP1703Data(t *testing.T) {
	checkData(t, ".byte 1, -1, -128, 255, 'a'; .long 1, -2, 0xffffffff, -0x80000000; .quad 258, -1, 0x8000000000000000", ".text", slices.Concat([]byte{1, 255, 128, 255, 'a'}, []byte{1, 0, 0, 0, 254, 255, 255, 255, 255, 255, 255, 255, 0, 0, 0, 128}, []byte{2, 1, 0, 0, 0, 0, 0, 0, 255, 255, 255, 255, 255, 255, 255, 255, 0, 0, 0, 0, 0, 0, 0, 128}))
	checkData(t, ".data; .byte 7; .balign 4, 9; .zero 3, 8; .zero 0, 5; .zero 1; .ascii \"ab\", \"\", \"c\"; .asciz \"d\", \"\"; .balign 8", ".data", []byte{7, 9, 9, 9, 8, 8, 8, 0, 'a', 'b', 'c', 'd', 0, 0, 0, 0})
	checkData(t, "nop; .byte 5; .balign 4, 144; ret; a: jmp a; jmp b; .ascii \"xy\"; b:", ".text", []byte{144, 5, 144, 144, 195, 235, 254, 235, 2, 'x', 'y'})
	checkData(t, ".set k, 3; .byte k, k * 2, k - k, ~k & 255", ".text", []byte{3, 6, 0, 252})
	checkData(t, "nop; .data; .byte 1; .text; ret; .data; .byte 2; .section x; .byte 3; .text; leave", ".text", []byte{144, 195, 201})
	checkData(t, "nop; .data; .byte 1; .text; ret; .data; .byte 2; .section x; .byte 3; .text; leave", ".data", []byte{1, 2})
	checkData(t, "jmp a; .zero 128; a:", ".text", slices.Concat([]byte{233, 128, 0, 0, 0}, make([]byte, 128)))
}

func TestP1703NoBits(t *testing.T) {
	for _, c := range []struct {
		text string
		size int
	}{{".bss", 0}, {".bss; .zero 9", 9}, {".bss; a: .byte 0, 0; .balign 8; .long 0; .quad 0; .zero 3; b:", 23}, {".section x, \"ax\", @nobits; .zero 5; .balign 4", 8}, {".bss; .zero 1048576", 1 << 20}} {
		if s := assembled(t, c.text).Sections[0]; len(s.Data) != 0 || s.Size != c.size || s.Type != api.NoBits || len(s.Relocs) != 0 {
			t.Error(c.text, short(s))
		}
	}
	checkSymbols(t, ".bss; a: .byte 0, 0; .balign 8; b: .long 0; c:", local("a", ".bss", 0), local("b", ".bss", 8), local("c", ".bss", 12))
}

// TestP1703Near: labels of one section are filled in, whatever is told of them; those of others are left.
func TestP1703Near(t *testing.T) {
	checkData(t, ".globl f; .type f, @gnu_indirect_function; f: call f; leaq f(%rip), %rax", ".text", []byte{232, 251, 255, 255, 255, 72, 141, 5, 244, 255, 255, 255})
	checkData(t, "call f; jmp f; je f; .section .x, \"ax\"; f: ret", ".text", []byte{232, 0, 0, 0, 0, 233, 0, 0, 0, 0, 15, 132, 0, 0, 0, 0}, reloc(1, api.RPc32, "f", -4), reloc(6, api.RPc32, "f", -4), reloc(12, api.RPc32, "f", -4))
	checkData(t, "leaq x+4(%rip), %rax; .data; x:", ".text", []byte{72, 141, 5, 0, 0, 0, 0}, reloc(3, api.RPc32, "x", 0))
}

// TestP1703Values: what has names is put in, or left to the linker.
func TestP1703Values(t *testing.T) {
	checkData(t, ".quad x, x + 8, x - 9", ".text", zeros(24), reloc(0, api.R64, "x", 0), reloc(8, api.R64, "x", 8), reloc(16, api.R64, "x", -9))
	checkData(t, ".long x, x + 8, x - 9", ".text", zeros(12), reloc(0, api.R32, "x", 0), reloc(4, api.R32, "x", 8), reloc(8, api.R32, "x", -9))
	checkData(t, "x: .quad x; .long x; y:", ".text", zeros(12), reloc(0, api.R64, "x", 0), reloc(8, api.R32, "x", 0))
	checkData(t, ".data; .byte 1; x: .long y - x, y - x + 7, 5; .quad y; .byte 2", ".data", slices.Concat([]byte{1}, zeros(8), []byte{5, 0, 0, 0}, zeros(8), []byte{2}), reloc(1, api.RPc32, "y", 0), reloc(5, api.RPc32, "y", 11), reloc(13, api.R64, "y", 0))
	checkData(t, ".data; .long y - x, y - x - 1; .zero 3; x: .text; y:", ".data", zeros(11), reloc(0, api.RPc32, "y", -11), reloc(4, api.RPc32, "y", -8))
	checkData(t, ".data; .zero 3; x: .text; .zero 5; y: .long x - y - 1", ".text", zeros(9), reloc(5, api.RPc32, "x", -1))
}

// TestP1703ValuesElsewhere: a difference of labels of another section is a number, whatever the size is.
func TestP1703ValuesElsewhere(t *testing.T) {
	labels := ".data; .zero 3; a: .balign 4; b: .zero 300; c: .text;"
	checkData(t, labels+".byte b - a, a - b, c - b - 45; .long c - a, a - c + 1; .quad a - c, c - a", ".text", slices.Concat([]byte{1, 255, 255}, []byte{45, 1, 0, 0, 212, 254, 255, 255}, []byte{211, 254, 255, 255, 255, 255, 255, 255}, []byte{45, 1, 0, 0, 0, 0, 0, 0}))
	checkData(t, labels+".quad c - a + 0x7fffffffffffffff, a - c - 0x7ffffffffffffe00", ".text", []byte{44, 1, 0, 0, 0, 0, 0, 128, 211, 0, 0, 0, 0, 0, 0, 128})
	// With labels behind, and where jumps become long between them.
	checkData(t, ".byte b - a; a: jmp c; b: .zero 128; c: .byte b - a", ".text", slices.Concat([]byte{5, 233, 128, 0, 0, 0}, zeros(128), []byte{5}))
	// The number is put in where the value stands, and nowhere else.
	checkData(t, "a: .zero 2; b: .byte 9, b - a, 8, a - b, 7; .long b - a, 6", ".text", []byte{0, 0, 9, 2, 8, 254, 7, 2, 0, 0, 0, 6, 0, 0, 0})
	checkSymbols(t, "a: .byte a - b; b:", local("a", ".text", 0), local("b", ".text", 1))
}

func zeros(n int) []byte { return make([]byte, n) }

func TestP1703ThreadLocal(t *testing.T) {
	general := []byte{102, 72, 141, 61, 0, 0, 0, 0, 102, 102, 72, 232, 0, 0, 0, 0}
	module := []byte{72, 141, 61, 0, 0, 0, 0, 232, 0, 0, 0, 0}
	call := "__tls_get_addr"
	checkData(t, ".tlsgd v", ".text", general, reloc(4, api.RTlsgd, "v", -4), reloc(12, api.RPlt32, call, -4))
	checkData(t, ".tlsld", ".text", module, reloc(3, api.RTlsld, call, -4), reloc(8, api.RPlt32, call, -4))
	checkData(t, "nop; .tlsld; .quad x; .tlsgd w; call f; .tlsgd v", ".text", slices.Concat([]byte{144}, module, zeros(8), general, []byte{232, 0, 0, 0, 0}, general),
		reloc(4, api.RTlsld, call, -4), reloc(9, api.RPlt32, call, -4), reloc(13, api.R64, "x", 0), reloc(25, api.RTlsgd, "w", -4), reloc(33, api.RPlt32, call, -4), reloc(38, api.RPc32, "f", -4), reloc(46, api.RTlsgd, "v", -4), reloc(54, api.RPlt32, call, -4))
	checkSymbols(t, ".tlsgd v", outside("v"), api.Symbol{Name: call, Bind: api.Weak})
	checkSymbols(t, ".tlsld", api.Symbol{Name: call, Bind: api.Weak})
	checkSymbols(t, ".section .tdata; v: .quad 1; .text; .tlsgd v", api.Symbol{Name: "v", Section: ".tdata", Type: api.Tls}, api.Symbol{Name: call, Bind: api.Weak})
	// It is data: a label of the name does not fill it in.
	checkData(t, call+": .tlsld", ".text", module, reloc(3, api.RTlsld, call, -4), reloc(8, api.RPlt32, call, -4))
}

// TestP1703RelocsByPlace: not in the order in which they are found.
func TestP1703RelocsByPlace(t *testing.T) {
	s := sectionOf(t, ".quad a; call b; .long c; call d; x: .long e - x; .quad f; jmp g", ".text")
	var names []string
	for k, r := range s.Relocs {
		names = append(names, r.Symbol)
		if k > 0 && r.At <= s.Relocs[k-1].At {
			t.Error(s.Relocs)
		}
	}
	if strings.Join(names, "") != "abcdefg" || !bytes.Equal(s.Data[:8], zeros(8)) {
		t.Error(s)
	}
}
