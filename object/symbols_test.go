package object_test

import (
	"testing"

	"gangway/api"
)

// TestP1703Labels: in the order in which they stand in the source.
func TestP1703Labels(t *testing.T) {
	checkSymbols(t, "z: nop; .data; .byte 1; y: x: .text; w: ret; .data; .byte 1; b: .text; a:",
		local("z", ".text", 0), local("y", ".data", 1), local("x", ".data", 1), local("w", ".text", 1), local("b", ".data", 2), local("a", ".text", 2))
	checkSymbols(t, "jmp a; .zero 128; a: .balign 16; b:", local("a", ".text", 133), local("b", ".text", 144))
	checkSymbols(t, ".L1: .: .text.x: _: nop:", local(".L1", ".text", 0), local(".", ".text", 0), local(".text.x", ".text", 0), local("_", ".text", 0), local("nop", ".text", 0))
}

func bound(name, section string, bind int) api.Symbol {
	return api.Symbol{Name: name, Section: section, Bind: bind}
}

func typed(name, section string, kind int) api.Symbol {
	return api.Symbol{Name: name, Section: section, Type: kind}
}

func sized(name string, size int) api.Symbol {
	return api.Symbol{Name: name, Section: ".text", Size: size}
}

// TestP1703Told: the last one of each kind counts, wherever it stands.
func TestP1703Told(t *testing.T) {
	checkSymbols(t, ".globl a; a: b: .weak b; c: .local c; .data; d: .globl d", bound("a", ".text", api.Global), bound("b", ".text", api.Weak), local("c", ".text", 0), bound("d", ".data", api.Global))
	checkSymbols(t, "a: .globl a; .weak a", bound("a", ".text", api.Weak))
	checkSymbols(t, ".weak a; a: .globl a", bound("a", ".text", api.Global))
	checkSymbols(t, ".weak a; .globl a; a: .local a", local("a", ".text", 0))
	checkSymbols(t, "a: .type a, @function; b: .type b, @object; c: .type c, @gnu_indirect_function; d: .type d, @tls_object; e: .type e, @notype", typed("a", ".text", api.Func), typed("b", ".text", api.Object), typed("c", ".text", api.Ifunc), typed("d", ".text", api.Tls), local("e", ".text", 0))
	checkSymbols(t, ".type a, @function; a: .type a, @object", typed("a", ".text", api.Object))
	checkSymbols(t, ".type a, @function; a: .type a, @notype", local("a", ".text", 0))
	checkSymbols(t, ".size a, 5; a: .size a, 7", sized("a", 7))
	checkSymbols(t, ".size a, 5; .globl a; .type a, @function; a: nop", api.Symbol{Name: "a", Section: ".text", Size: 5, Bind: api.Global, Type: api.Func})
}

func TestP1703Sizes(t *testing.T) {
	checkSymbols(t, "a: .size a, 0", sized("a", 0))
	checkSymbols(t, "a: .size a, 0x4000000000000000", sized("a", 1<<62))
	checkSymbols(t, "a: jmp b; .zero 128; b: .size a, b - a", sized("a", 133), local("b", ".text", 133))
	checkSymbols(t, "a: .size a, b - a + 7; nop; b:", sized("a", 8), local("b", ".text", 1))
	checkSymbols(t, "a: .size a, a - b + 7; nop; b:", sized("a", 6), local("b", ".text", 1))
	checkSymbols(t, "a: .size a, a - b + 1; nop; b:", sized("a", 0), local("b", ".text", 1))
	checkSymbols(t, "a: .size a, a - a + 3", sized("a", 3))
	checkSymbols(t, "a: .data; x: .zero 9; y: .size a, y - x", sized("a", 9), local("x", ".data", 0), local("y", ".data", 9))
	checkSymbols(t, ".set n, 4; a: .size a, n * 2", sized("a", 8))
}

// TestP1703ThreadLocalLabels: their type is Tls, if none was told.
func TestP1703ThreadLocalLabels(t *testing.T) {
	for _, section := range []string{".tdata", ".tbss"} {
		checkSymbols(t, ".section "+section+"; a: b: .type b, @object; c: .type c, @notype; .text; d:", typed("a", section, api.Tls), typed("b", section, api.Object), local("c", section, 0), local("d", ".text", 0))
	}
	checkSymbols(t, ".section x, \"T\"; a: .section y, \"aw\"; b:", typed("a", "x", api.Tls), local("b", "y", 0))
	// Of names that are no labels nothing is taken from a section.
	checkSymbols(t, ".section .tdata; .quad x", outside("x"))
}

// TestP1703Outside: names that are no labels, each once.
func TestP1703Outside(t *testing.T) {
	checkSymbols(t, "call z; call y; call z; jmp x; .quad w, z", outside("z"), outside("y"), outside("x"), outside("w"))
	checkSymbols(t, "call z; .data; .quad y; .text; call x; .data; .quad w", outside("z"), outside("x"), outside("y"), outside("w"))
	checkSymbols(t, ".data; .quad y; .text; call z; .data; .quad w", outside("y"), outside("w"), outside("z"))
	// By their places, not by how they came about.
	checkSymbols(t, ".quad c; call b; .tlsgd a", outside("c"), outside("b"), outside("a"), bound("__tls_get_addr", "", api.Weak))
	// Then those that are bound, though nothing refers to them.
	checkSymbols(t, ".weak b; .globl a; call c; .local d", outside("c"), bound("b", "", api.Weak), outside("a"))
	checkSymbols(t, ".weak b; .globl a; call c; call a; f:", local("f", ".text", 10), outside("c"), outside("a"), bound("b", "", api.Weak))
	checkSymbols(t, ".globl b; .globl a; .weak b", bound("b", "", api.Weak), outside("a"))
	checkSymbols(t, ".globl a; .local a; .local b; .globl b", outside("b"))
	checkSymbols(t, ".globl f; f: call f@plt; .weak f", bound("f", ".text", api.Weak))
	// Labels are left out, even where they stand far behind.
	checkSymbols(t, "call a@plt; .quad b; .data; b: .text; a:", local("b", ".data", 0), local("a", ".text", 13))
	// What was set is no name any more.
	checkSymbols(t, ".set k, 5; .quad k, j + k", outside("j"))
	checkSymbols(t, "y: .long x - y", local("y", ".text", 0), outside("x"))
}

func TestP1703OutsideTold(t *testing.T) {
	checkSymbols(t, "call a; .weak a; .type a, @function; .size a, 5", api.Symbol{Name: "a", Bind: api.Weak, Type: api.Func})
	checkSymbols(t, ".weak a; call a; .globl a", outside("a"))
	checkSymbols(t, ".type a, @tls_object; .globl a", api.Symbol{Name: "a", Bind: api.Global, Type: api.Tls})
	checkSymbols(t, ".type a, @function; .size a, -5")
	// The call that asks for thread-local data is weak, if nothing is told.
	checkSymbols(t, "call __tls_get_addr@plt", bound("__tls_get_addr", "", api.Weak))
	checkSymbols(t, ".tlsld; .globl __tls_get_addr", outside("__tls_get_addr"))
	checkSymbols(t, ".globl __tls_get_addr", outside("__tls_get_addr"))
	checkSymbols(t, ".tlsld; .type __tls_get_addr, @function", api.Symbol{Name: "__tls_get_addr", Bind: api.Weak, Type: api.Func})
	checkSymbols(t, ".tlsld; __tls_get_addr: ret", local("__tls_get_addr", ".text", 12))
}

// TestP1703SectionSymbols: of sections that a table names, ahead of all others.
func TestP1703SectionSymbols(t *testing.T) {
	own := func(name string) api.Symbol { return local(name, name, 0) }
	checkSymbols(t, "f: .cfi_startproc; ret; .cfi_endproc", own(".text"), local("f", ".text", 0))
	checkSymbols(t, "f: nop; .file 1 \"a\"; .loc 1 1; ret", own(".text"), local("f", ".text", 0))
	checkSymbols(t, ".data; x: .section y, \"x\"; .section z, \"x\"; .section w, \"x\"; .section v, \"x\"; .cfi_startproc; .cfi_endproc; .section z, \"x\"; .file 1 \"a\"; .loc 1 1; .section y, \"x\"; .cfi_startproc; .cfi_endproc; .loc 1 2; .loc 1 3; call g", own("y"), own("z"), own("v"), local("x", ".data", 0), outside("g"))
	checkSymbols(t, ".globl f; .data; .quad 1; .text; f: .cfi_startproc; .cfi_endproc", own(".text"), bound("f", ".text", api.Global))
	// Nothing that is told is told of these; a name that they have needs no other one.
	checkSymbols(t, ".cfi_startproc; .cfi_endproc; .globl .text; .type .text, @function; .size .text, 9; .quad .text", own(".text"))
	checkSymbols(t, "nop; .quad .text; .globl .data; .data", outside(".text"), outside(".data"))
}
