package parse_test

import (
	"strings"
	"testing"

	"gangway/api"
	"gangway/expr"
	"gangway/lexer"
	"gangway/parse"
)

// TestP1201Kinds: the constants, which other layers and programs may have written out.
func TestP1201Kinds(t *testing.T) {
	got := [...]int{parse.Label, parse.Code, parse.Section, parse.Data, parse.Ascii, parse.Align, parse.Zero, parse.Bind, parse.Type, parse.Size, parse.Set, parse.Cfi, parse.File, parse.Loc, parse.Tlsgd, parse.Tlsld}
	if got != [...]int{1, 2, 3, 4, 5, 6, 7, 8, 9, 10, 11, 12, 13, 14, 15, 16} {
		t.Error(got)
	}
}

// TestP1201Examples: those of the chapter.
func TestP1201Examples(t *testing.T) {
	is(t, "f: pushq %rbp; movq %rsp, %rbp", label("f"), inst(api.Push, 8, api.Operand{}, reg(5)), inst(api.Mov, 8, reg(5), reg(4)))
	is(t, "movq x@gotpcrel(%rip), %rax", inst(api.Mov, 8, reg(0), rip("x", api.GotPcrel, 0)))
	is(t, "jne short .+5", jcc(5, true, target("", 0, 5)))
	is(t, ".quad a - b + 4, 7", data(8, val("a", "b", 4), num(7)))
	is(t, ".cfi_offset %rbp, -16", of(parse.Cfi, "offset", 6, -16))
	is(t, ".section .text", of(parse.Section, ".text", api.ProgBits, api.Alloc+api.Exec))
	refused(t, api.ErrSyntax, "movq %eax, %rbx", "foo", ".balign 3", "movq x, %rax")
	refused(t, api.ErrForm, "movb $256, %al")
	refused(t, api.ErrExpr, ".byte 1 +")
}

func TestP1201Nothing(t *testing.T) {
	for _, text := range []string{"", "\n", ";", ";;;", "\n;\n ; \n", " \t ", "# x", "# x\n;# y\n", strings.Repeat("\n", 4000), strings.Repeat(";", 65536)} {
		checkAll(t, text, nil, 0, api.OK)
	}
}

func TestP1201Labels(t *testing.T) {
	is(t, "a:", label("a"))
	is(t, "a :", label("a"))
	is(t, "a: b: c:", label("a"), label("b"), label("c"))
	is(t, "a:b:c:nop", label("a"), label("b"), label("c"), nop())
	is(t, "a: a: a:", label("a"), label("a"), label("a"))
	is(t, "a:; b: ;nop", label("a"), label("b"), nop())
	is(t, "a: nop; b: nop", label("a"), nop(), label("b"), nop())
	is(t, ".L1: ..: .: _: x.y_9:", label(".L1"), label(".."), label("."), label("_"), label("x.y_9"))
	is(t, "nop: movq: .text: .set: short: nop", label("nop"), label("movq"), label(".text"), label(".set"), label("short"), nop())
	is(t, long(255)+":", label(long(255)))
	is(t, "a: .byte 1", label("a"), data(1, num(1)))
	refused(t, api.ErrSyntax, ":", "a::", "a: :", ": a", "1:", "\"a\":", "%a:", "$a:", "a,:", "a: b", "a: b c:", "nop a:", "nop: a", "nop; :", "a: 1: nop", "a: (", "-a:")
}

// TestP1201Begins: with a Name each statement does.
func TestP1201Begins(t *testing.T) {
	refused(t, api.ErrSyntax, "1", "'a'", "\"x\"", "%rax", "%fs:0", "$1", "(", ")", ",", ":", "+", "-", "*", "/", "&", "~", "@", "=", "|", "^", "<<", ">>", "(nop)", "1 nop", ", nop", "\"nop\"", "%nop")
	refused(t, api.ErrSyntax, "foo", "foo 1 +", "foo $", "foo %rax", "a = 1", "Nop", "NOP", "mov", "movw %rax, %rax", "nopq", "ret.", "_nop", "nop_", "jz a", "jmpq a", "callq a", "retq", "pushl %eax", "rep", "rax", "short a")
	refused(t, api.ErrSyntax, ".", "..", ".nothing", ".nothing 1 +", ".Text", ".TEXT", ".text.", ".texts", "._text", ".cfi", ".cfi_", ".cfi_nothing 1", ".cfi_offsets 6, 1", ".nop", ".movq %rax, %rbx", ".quads 1", ".word 1", ".short 1", ".string \"a\"", ".align 4", ".p2align 4", ".global a", ".comm a, 4", ".equ a, 1", ".org 4", ".skip 4", ".space 4", ".tlsgdx v", ".tdata", ".tbss", ".init_array", ".L1")
}

func TestP1201Line(t *testing.T) {
	l := all(t, "\na: b: nop; nop\n\n# x\n.byte 1;;c:\n;d:")
	want := []parse.Stmt{label("a"), label("b"), nop(), nop(), data(1, num(1)), label("c"), label("d")}
	for k, line := range []int{2, 2, 2, 2, 5, 5, 6} {
		want[k].Line = line
		if l[k].Line != line {
			t.Error(k, l[k].Line)
		}
	}
	checkAll(t, "\na: b: nop; nop\n\n# x\n.byte 1;;c:\n;d:", want, 0, api.OK)
	checkAll(t, strings.Repeat("\n", 3999)+"nop", atLine(4000, nop()), 0, api.OK)
}

// TestP1201FirstPart: of several that are wrong, on one line and on several.
func TestP1201FirstPart(t *testing.T) {
	wrong := map[string]api.Errno{"foo": api.ErrSyntax, ".byte 1 +": api.ErrExpr, "movb $256, %al": api.ErrForm, "movq": api.ErrForm, ".zero x": api.ErrSyntax, ".loc": api.ErrExpr}
	for first, e := range wrong {
		for then := range wrong {
			checkAll(t, first+"\n"+then, nil, 1, e)
			checkAll(t, first+";"+then, nil, 1, e)
			checkAll(t, "nop; a:;"+first+";"+then, nil, 1, e)
			checkAll(t, "nop\n\n#\na: "+first+"\n\n"+then+"\n"+then, nil, 4, e)
			checkAll(t, strings.Repeat("a:\n", 3999)+first, nil, 4000, e)
		}
	}
}

// TestP1201LexersErrors: ahead of all that is wrong otherwise, with their line.
func TestP1201LexersErrors(t *testing.T) {
	for _, wrong := range []string{"", "foo\n", ".byte 1 +\n", "movb $256, %al\n", "nop\n", "foo;", "a: .set\n"} {
		for _, bad := range []string{"?", "\"x", "012", "%", "<", "nop\nnop ?", "'", long(256)} {
			text := wrong + bad
			_, line, e := lexer.All(text)
			if e != api.ErrToken {
				t.Fatal(text)
			}
			checkAll(t, text, nil, line, api.ErrToken)
		}
		checkAll(t, wrong+strings.Repeat(" ", 65537-len(wrong)), nil, 0, api.ErrSize)
		checkAll(t, wrong+strings.Repeat("\n", 4001), nil, 0, api.ErrSize)
		checkAll(t, wrong+strings.Repeat("\n", 4001)+"?", nil, 0, api.ErrSize)
	}
	checkAll(t, "foo"+strings.Repeat(" ", 65533), nil, 1, api.ErrSyntax)
	checkAll(t, "foo"+strings.Repeat("\n", 4000), nil, 1, api.ErrSyntax)
}

// TestP1201Numbers: each place for one takes an expression, and no names.
func TestP1201Numbers(t *testing.T) {
	is(t, ".balign 1 << 3 | 8, 2 * (3 + 4)", of(parse.Align, "", 8, 14))
	is(t, ".balign(4),(5)", of(parse.Align, "", 4, 5))
	is(t, ".zero a - a + 5, b - b", of(parse.Zero, "", 5, 0))
	is(t, ".zero 'a'", of(parse.Zero, "", 97, 0))
	is(t, ".zero 0x10, ~-2", of(parse.Zero, "", 16, 1))
	is(t, "movq $-(1 + 2) * 3, %rax", inst(api.Mov, 8, reg(0), imm(-9)))
	is(t, "movq $a - a, %rax", inst(api.Mov, 8, reg(0), imm(0)))
	is(t, "movq (%rax,%rbx,1 << 2), %rax", inst(api.Mov, 8, reg(0), indexed(0, 3, 4, 0)))
	is(t, "jmp .+2 * 3 - 1", jmp(false, target("", 0, 5)))
	is(t, "movq v@tpoff - 2 * 3 + 1(%rax), %rax", inst(api.Mov, 8, reg(0), named(base(0, -5), "v", api.Tpoff)))
	is(t, ".cfi_def_cfa 3 + 4, 2 << 2", of(parse.Cfi, "def_cfa", 7, 8))
	is(t, ".file 2 - 1 \"a\"", file(1, "a"))
	is(t, ".loc 1 + 1 (2) ~-4", of(parse.Loc, "", 2, 2, 3))
	refused(t, api.ErrSyntax, ".balign x", ".balign -x", ".balign 4, x", ".zero a - b", ".zero x + 1", ".zero 1, x", ".cfi_offset x, 1", ".cfi_offset 1, x", ".cfi_def_cfa_offset x", ".cfi_restore x", ".file x \"a\"", ".loc x 1", ".loc 1 x", ".loc 1 1 x", "movq $x, %rax", "movq $x - y, %rax", "movq $-x, %rax", "jmp .+x", "jmp .-x+1", "movq v@tpoff+x(%rax), %rax", "movq (%rax,%rbx,x), %rax", "pushq $x")
}

// TestP1201NoExpression: where one must stand, Eval's errors of both sorts.
func TestP1201NoExpression(t *testing.T) {
	deep, ones := strings.Repeat("(", 51)+"1"+strings.Repeat(")", 51), strings.Repeat("~", 201)+"1"
	for _, none := range []string{"", ",", ")", "\"x\"", "%rax", "1 +", "(1", "1 / 0", "1 << 64", "a + b", "~a", "a * 2", "*1", "$1", "@", "=", "-", deep, ones} {
		for _, ahead := range []string{".byte ", ".long 1, ", ".quad a, b, ", ".balign ", ".balign 4, ", ".zero ", ".zero 4, ", ".size f, ", ".set f, ", ".cfi_def_cfa 7, ", ".cfi_offset 6, ", ".cfi_rel_offset %rax, ", ".cfi_def_cfa_offset ", ".cfi_adjust_cfa_offset ", ".file ", ".loc ", ".loc 1 ", "movq $", "pushq $", "movq (%rax,%rbx,", "movq %fs:", "call *%fs:"} {
			refused(t, api.ErrExpr, ahead+none)
		}
	}
	for _, ahead := range []string{".cfi_def_cfa ", ".cfi_offset ", ".cfi_rel_offset ", ".cfi_def_cfa_register ", ".cfi_restore ", ".cfi_undefined ", ".cfi_same_value "} {
		refused(t, api.ErrExpr, ahead, ahead+",", ahead+"\"x\"", ahead+"1 +", ahead+"(", ahead+deep, ahead+"$1", ahead+"(%rax)")
	}
	for _, ahead := range []string{"jmp .+", "call .-", "je .+", "movq v@tpoff+", "movq v@gotpcrel-", "jmp *v@plt+"} {
		refused(t, api.ErrExpr, ahead, ahead+",", ahead+"\"x\"", ahead+"1 +", ahead+"(%rax)", ahead+deep, ahead+"1 / 0", ahead+"*1", ahead+ones)
	}
	refused(t, api.ErrExpr, ".loc 1 1 ,", ".loc 1 1 \"x\"", ".loc 1 1 %rax", ".loc 1 1 )", ".loc 1 1 (", ".loc 1 1 , 1", ".loc 1, 1", ".loc , 1 1")
}

// TestP1201FirstThing: of several in one part, from its beginning on.
func TestP1201FirstThing(t *testing.T) {
	refused(t, api.ErrSyntax,
		"foo: : .byte 1 +", "1 .byte 1 +", ".nothing 1 +", "foo $1 +",
		".balign 3, 1 +", ".balign 8192, 1 +", ".balign 0, 1 +", ".balign x, 1 +", ".balign 4 1 +", ".balign 4, 256 1 +",
		".zero -1, 1 +", ".zero 0x100001, 1 +", ".zero x, 1 +",
		".size 1, 1 +", ".size f 1 +", ".size , 1 +", ".set 1, 1 +", ".set f 1 +",
		".set a, 1; .set a, 1 +", ".set a, 1; .set a",
		".byte 1 2, 1 +", ".byte 1, 2 (3, 1 +", ".byte 1; .byte a b +",
		".cfi_offset %eax, 1 +", ".cfi_offset %foo, 1 +", ".cfi_offset 17, 1 +", ".cfi_offset -1, 1 +", ".cfi_offset 6 1 +", ".cfi_startproc 1 +", ".cfi_def_cfa_offset 0x80000000 1 +",
		".file 0 1 +", ".file 256 \"a\"", ".file 1 1 +", ".file 1, 1 +", ".file x \"a\"",
		".loc 0 1 +", ".loc 256 1 +", ".loc 1 0x80000000 1 +", ".loc 1 1 0x10000 1 +", ".loc 1 1 1 1 +",
		".text 1 +", ".section .x 1 +", ".section .x, 1 +", ".section .x, \"aa\", 1 +", ".section .x, \"a\", @foo 1 +", ".tlsgd 1 +", ".tlsld 1 +", ".globl a 1 +", ".type a, 1 +", ".ascii 1 +", ".ascii \"a\" 1 +",
		"movq %foo, $1 +", "movq %rip, $1 +", "movq %fs, $1 +", "movq (%eax), $1 +", "movq (%foo), $1 +", "movq x, $1 +", "movq 8, $1 +", "movq a - b(%rax), $1 +", "movq x@foo(%rip), $1 +", "movq $x, 1 +",
		"movq 8(%rax, 1 +", "movq (%rax 1 +", "movq (%rip,%rax,1 +", "movq (%rax,%rbx 1 +", "movq (%rax,%ebx,1 +", "movq (%rax,%rip,1 +", "movq (%rax,%rbx,3), 1 +", "movq (%rax,%rbx,x), 1 +", "movq %fs:8(%rax), 1 +", "movq %gs:1 +",
		"call 1 +", "jmp %rax, .+", "jmp a, b, .+", "jmp a .+", "jmp a@foo, .+", "jne *1 +", "jmp short, .+", "jmp a + 1 +",
		"movq %rax, %rbx, 1 +", "movq %rax %rbx, 1 +", "nop nop 1 +", "movb $256, %al, 1 +",
	)
	refused(t, api.ErrExpr,
		".balign 4, 1 + ", ".balign 4 +, 256", ".zero 1 +, x", ".byte 1 +, 2 3", ".byte 1, (2 3", ".set a, 1; .set b, a +",
		".cfi_offset 1 +, %eax", ".cfi_offset %rax, 1 +", ".file 1 + \"a\"", ".file \"a\" 0", ".loc 1 1 + ", ".loc 300 +",
		"movq %eax, $1 +", "movq $1 +, %eax", "movb $256, 1 +", "shlq %rax, 1 +", "movzbl %eax, $", "pushq %eax, $", "ret %rax, $", "movq %eax, %fs:", "movq %eax, \"x\"", "popq %eax,", "movq $300, %fs:1 +",
		"movq (%rax,%rsp,1 +", "movq (%rax,%rbx,), %foo", "movq %eax,", "movq %rax, , %rbx", "movq ,", "movq , %rax", "movq *%rax, %rbx", "movq (,%rax,1), %rax", "movq (x, %rax", "movq 8+(%rax), %rbx", "movq \"x\"", "nop \"x\"", "ret ,", "call *,", "call *", "jmp *+", "call *\"x\"", "movq -(%rax), %rax",
	)
	refused(t, api.ErrSyntax, "movq %eax, $300, %al", "movb $256, %eax", "movb %eax, (%rax,%rsp,1)", "leaq %fs:0, %eax", "ret %rax", "cqto %eax", "nop %al")
	refused(t, api.ErrForm, "movq (%rax,%rsp,1), $5", "ret $5", "nop (%rax)", "movb $256, %al", "movb $-129, %al")
}

// TestP1201Set: what is set is known behind it, on its line and on later ones, and not ahead of it.
func TestP1201Set(t *testing.T) {
	is(t, ".set a, 5; .byte a; .long a + 1", valued(parse.Set, "a", num(5)), data(1, num(5)), data(4, num(6)))
	is(t, ".byte a; .set a, 5; .byte a", data(1, val("a", "", 0)), valued(parse.Set, "a", num(5)), data(1, num(5)))
	is(t, ".set a, 5; .set b, a * 2; .quad b", valued(parse.Set, "a", num(5)), valued(parse.Set, "b", num(10)), data(8, num(10)))
	is(t, ".set b, a; .set a, 5; .quad b", valued(parse.Set, "b", val("a", "", 0)), valued(parse.Set, "a", num(5)), data(8, val("a", "", 0)))
	is(t, ".set a, a + 1; .quad a", valued(parse.Set, "a", val("a", "", 1)), data(8, val("a", "", 1)))
	is(t, ".set a, x - y + 3; .quad a, a + y, a - x", valued(parse.Set, "a", val("x", "y", 3)), data(8, val("x", "y", 3), val("x", "", 3), val("", "y", 3)))
	is(t, ".set ., 5; .quad .; jmp .+1; jmp .", valued(parse.Set, ".", num(5)), data(8, num(5)), jmp(false, target("", 0, 1)), jmp(false, target(".", 0, 0)))
	want := append(atLine(1, valued(parse.Set, "k", num(3))), atLine(2, of(parse.Align, "", 8, 3))...)
	checkAll(t, ".set k, 3\n.balign 1 << k, k", want, 0, api.OK)
	refused(t, api.ErrSyntax, ".set a, 1; .set a, 2", ".set a, 1; .set a, 1", ".set a, 1; nop; a: ; .set b, 2; .set a, 3", ".set a, a; .set a, a", "movq $k, %rax; .set k, 1", ".zero k; .set k, 1", ".set k, x; .zero k")
	checkAll(t, ".set a, 1\nnop\n.set a, 2", nil, 3, api.ErrSyntax)
	is(t, ".set a, 1; .set A, 2; .set a., 3", valued(parse.Set, "a", num(1)), valued(parse.Set, "A", num(2)), valued(parse.Set, "a.", num(3)))
	is(t, "a: .set a, 1; a:", label("a"), valued(parse.Set, "a", num(1)), label("a"))
}

// TestP1201SetNames: a name stays one, where a name must stand.
func TestP1201SetNames(t *testing.T) {
	set := valued(parse.Set, "k", num(5))
	for text, want := range map[string]parse.Stmt{
		"k:":                          label("k"),
		".globl k":                    of(parse.Bind, "k", api.Global),
		".section k":                  of(parse.Section, "k", api.ProgBits, 0),
		".type k, @object":            of(parse.Type, "k", api.Object),
		".size k, k":                  valued(parse.Size, "k", num(5)),
		".set j, k":                   valued(parse.Set, "j", num(5)),
		".tlsgd k":                    of(parse.Tlsgd, "k"),
		"call k":                      inst(api.Call, 8, target("k", api.Plain, 0), api.Operand{}),
		"jmp k@plt":                   jmp(false, target("k", api.Plt, 0)),
		"jmp short k":                 jmp(true, target("k", api.Plain, 0)),
		"movq k@gotpcrel(%rip), %rax": inst(api.Mov, 8, reg(0), rip("k", api.GotPcrel, 0)),
		"movq k@tpoff+k(%rbx), %rax":  inst(api.Mov, 8, reg(0), named(base(3, 5), "k", api.Tpoff)),
		"movq k(%rip), %rax":          inst(api.Mov, 8, reg(0), rip("", api.Plain, 5)),
		"movq k+1(%rax), %rax":        inst(api.Mov, 8, reg(0), base(0, 6)),
		"movq x-k(%rip), %rax":        inst(api.Mov, 8, reg(0), rip("x", api.Plain, -5)),
		"movq %fs:k, %rax":            inst(api.Mov, 8, reg(0), fs("", api.Plain, 5)),
		"movq $k, %rax":               inst(api.Mov, 8, reg(0), imm(5)),
		"jmp .+k":                     jmp(false, target("", 0, 5)),
		".cfi_restore k":              of(parse.Cfi, "restore", 5),
		".file k \"k\"":               file(5, "k"),
		".loc k k k":                  of(parse.Loc, "", 5, 5, 5),
	} {
		is(t, ".set k, 5; "+text, set, want)
	}
	is(t, ".set short, 1; jmp short; jmp short short", valued(parse.Set, "short", num(1)), jmp(false, target("short", 0, 0)), jmp(true, target("short", 0, 0)))
	is(t, ".set nop, 1; nop", valued(parse.Set, "nop", num(1)), nop())
	is(t, ".set plt, 1; jmp a@plt", valued(parse.Set, "plt", num(1)), jmp(false, target("a", api.Plt, 0)))
	is(t, ".set object, 1; .type a, @object", valued(parse.Set, "object", num(1)), of(parse.Type, "a", api.Object))
	checkAll(t, ".set k, a - b; movq k(%rip), %rax", nil, 1, api.ErrSyntax)
	is(t, ".set k, a - b; movq k+b(%rip), %rax", valued(parse.Set, "k", val("a", "b", 0)), inst(api.Mov, 8, reg(0), rip("a", api.Plain, 0)))
}

// TestP1201ManySets: all of them stay known.
func TestP1201ManySets(t *testing.T) {
	var text strings.Builder
	var want []parse.Stmt
	for k := range 1200 {
		name := "v" + string([]byte{byte('a' + k/26/26), byte('a' + k/26%26), byte('a' + k%26)})
		text.WriteString(".set " + name + ", 1 + 2 << 3\n.quad " + name + "+vaaa\n")
		want = append(want, atLine(2*k+1, valued(parse.Set, name, num(17)))...)
		want = append(want, atLine(2*k+2, parse.Stmt{Kind: parse.Data, Args: []int{8}, Values: []expr.Value{num(34)}})...)
	}
	checkAll(t, text.String(), want, 0, api.OK)
}
