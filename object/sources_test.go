package object_test

import (
	"math/rand/v2"
	"slices"
	"strconv"
	"strings"
)

// writer: of lines that fit together.
type writer struct {
	*rand.Rand
	l       []string
	section string
	isExec  bool
	isOpen  bool
	isZero  bool // of NoBits
	files   int
	labels  []string
}

// sections: as they are chosen again and again.
func sections() []string {
	return []string{".text", ".data", ".bss", ".rodata", ".section .tdata", ".section .tbss", ".section x, \"ax\"", ".section y, \"axw\", @progbits", ".section z, \"x\", @nobits", ".section .init_array"}
}

// anySource: so many lines at most; each label once, no procedure without an end.
func anySource(random *rand.Rand, most int) []string {
	w := &writer{Rand: random, section: ".text", isExec: true}
	for range random.IntN(most + 1) {
		w.line()
	}
	if w.isOpen {
		w.add(".cfi_endproc")
	}
	return w.l
}

func (w *writer) add(line string) { w.l = append(w.l, line) }

func (w *writer) line() {
	switch {
	case w.IntN(8) == 0 && !w.isOpen:
		w.choose()
	case w.IntN(6) == 0:
		w.label()
	case w.IntN(8) == 0:
		w.tell()
	case w.isZero:
		w.add(pick(w.Rand, ".zero 5", ".balign 8", ".byte 0, 0", ".zero 300", ".balign 2, 0", ".quad 0", ".long 1 - 1"))
	case !w.isExec || w.IntN(4) == 0:
		w.data()
	default:
		w.code()
	}
}

func (w *writer) choose() {
	s := pick(w.Rand, sections()...)
	w.add(s)
	w.section = s
	w.isExec = s == ".text" || strings.Contains(s, "x\"") || strings.Contains(s, "xw\"")
	w.isZero = strings.Contains(s, "bss") || strings.Contains(s, "nobits")
}

// name: of a label, or of none so far.
func (w *writer) name() string {
	if len(w.labels) > 0 && w.IntN(3) > 0 {
		return pick(w.Rand, w.labels...)
	}
	return pick(w.Rand, ".L1", ".L2", ".L3", "a", "b", "c", "f", "g", "__tls_get_addr", "x", ".data")
}

func (w *writer) label() {
	name := w.name()
	if slices.Contains(w.labels, name) || name == "x" || w.IntN(2) == 0 {
		name = pick(w.Rand, "l", ".L", "m.") + strconv.Itoa(len(w.l))
	}
	if !slices.Contains(w.labels, name) {
		w.labels = append(w.labels, name)
		w.add(name + ":")
	}
}

func (w *writer) tell() {
	name := w.name()
	w.add(pick(w.Rand, ".globl "+name, ".weak "+name, ".type "+name+", @object", ".type "+name+", @function", ".type "+name+", @notype", ".size "+name+", "+strconv.Itoa(w.IntN(20)), ".globl "+name))
	if w.IntN(20) == 0 {
		w.add(pick(w.Rand, ".local "+name, ".size "+name+", "+w.name()+" - "+w.name()))
	}
}

func (w *writer) number(low, high int) string { return strconv.Itoa(low + w.IntN(high-low+1)) }

func (w *writer) data() {
	name, other := w.name(), w.name()
	w.add(pick(w.Rand, ".byte "+w.number(-128, 255)+", 7", ".long "+w.number(-1<<31, 1<<32-1), ".quad "+w.number(-1<<40, 1<<40)+", -1", ".quad "+name, ".quad "+name+" + 8, "+other, ".long "+name+" - 4", ".ascii \"abc\"", ".asciz \"\", \"x\"", ".ascii \"\"", ".zero "+w.number(0, 9)+", 7", ".zero "+w.number(100, 140), ".balign 16", ".balign 4, 9", ".byte 1"))
	if len(w.labels) > 1 && w.IntN(2) == 0 {
		label, second := pick(w.Rand, w.labels...), pick(w.Rand, w.labels...)
		w.add(pick(w.Rand, ".long "+name+" - "+label+" + 3", ".quad "+second+" - "+label, ".byte "+second+" - "+label, ".long "+second+" - "+label+", 5"))
	}
}

func (w *writer) code() {
	name := w.name()
	switch w.IntN(5) {
	case 0:
		w.frame()
	case 1:
		w.loc()
	case 2:
		w.add(pick(w.Rand, "call "+name, "call "+name+"@plt", "leaq "+name+"+4(%rip), %rax", "movl $5, "+name+"(%rip)", "movq "+name+"@gotpcrel(%rip), %rcx", "movq "+name+"@gottpoff(%rip), %rcx", "movq %fs:"+name+"@tpoff, %rax", ".tlsgd "+name, ".tlsld"))
	case 3:
		w.add(pick(w.Rand, "jmp "+name, "jne "+name, "jg "+name, "jmp "+name))
	default:
		w.add(pick(w.Rand, "nop", "ret", "pushq %rbp", "movq %rsp, %rbp", "movq $1234567890123, %rax", "addl $7, 12(%rbx,%rcx,4)"))
	}
}

func (w *writer) frame() {
	switch {
	case !w.isOpen:
		w.add(".cfi_startproc")
		w.isOpen = true
	case w.IntN(3) == 0:
		w.add(".cfi_endproc")
		w.isOpen = false
	case w.IntN(5) == 0:
		w.add(".data; .byte 1; " + w.section)
	default:
		w.add(pick(w.Rand, ".cfi_def_cfa_offset 16", ".cfi_adjust_cfa_offset 8", ".cfi_offset %rbp, -16", ".cfi_rel_offset 3, 0", ".cfi_def_cfa 6, 16", ".cfi_def_cfa_register 6", ".cfi_undefined 9", ".cfi_same_value 10", ".cfi_restore 3", ".cfi_remember_state"))
	}
}

func (w *writer) loc() {
	if w.files == 0 || w.IntN(6) == 0 {
		w.files++
		w.add(".file " + strconv.Itoa(w.files) + " \"f" + strconv.Itoa(w.files) + ".s\"")
	}
	w.add(".loc " + w.number(1, w.files) + " " + w.number(0, 99) + pick(w.Rand, "", " 5"))
}

// wildLine may be wrong, where it stands.
func wildLine(random *rand.Rand) string {
	name := func() string {
		return pick(random, ".L1", ".L2", "a", "b", "c", "f", "g", "x", "y", ".text", ".eh_frame", "nowhere", ".")
	}
	return pick(random,
		name()+":", name()+": "+name()+":", "nop", "jmp short "+name(), ".byte "+name(), ".byte 256", ".byte "+name()+" - "+name(), ".long "+name()+" - "+name(), ".quad "+name()+" - "+name(), ".quad -"+name(),
		".long 0x100000000", ".quad 1", ".section .data, \"a\"", ".section .text, \"awx\"", ".section x", ".section .eh_frame, \"a\"", ".section .debug_line", ".section .rela.x", ".data", ".bss", ".text",
		".local "+name(), ".local "+name()+"; call "+name(), ".size "+name()+", -1", ".size "+name()+", "+name(), ".size "+name()+", "+name()+" - "+name()+" - 3", ".weak "+name(), ".globl "+name(),
		".cfi_startproc", ".cfi_endproc", ".cfi_restore_state", ".cfi_adjust_cfa_offset -90", ".cfi_offset 3, 4", ".cfi_restore 3", ".file 1 \"other\"", ".file 9 \"gap\"", ".loc 1 1", ".loc 9 1", ".loc 2 5",
		".tlsgd "+name(), ".tlsld", ".ascii \"\"", ".balign 2, 1", ".balign 64", ".zero 1, 1", ".zero 1048576", ".quad "+name()+" + 0x4000000000000001", "leaq "+name()+"+2147483647(%rip), %rax", ".type "+name()+", @tls_object", "foo", "?", ".byte 1 +", ".set k, 7", ".byte k")
}

// joined: some with a ; between, some on a line of their own.
func joined(random *rand.Rand, l []string) string {
	var b strings.Builder
	for _, line := range l {
		b.WriteString(line + pick(random, ";", "\n", "\n", "\n\n", " # x\n"))
	}
	return b.String()
}
