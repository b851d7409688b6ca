package parse_test

import (
	"fmt"
	"math"
	"testing"

	"gangway/api"
	"gangway/forms"
	"gangway/parse"
)

func none() api.Operand { return api.Operand{} }

func TestP1201WithoutOperands(t *testing.T) {
	for name, op := range map[string]int{"ret": api.Ret, "leave": api.Leave, "cqto": api.Cqo, "nop": api.Nop, "ud2": api.Ud2, "syscall": api.Syscall} {
		is(t, name, inst(op, 0, none(), none()))
		is(t, "a: "+name+" # x", label("a"), inst(op, 0, none(), none()))
		refused(t, api.ErrForm, name+" $1", name+" (%rax)", name+" $1, $2", name+" 8(%rip)", name+" %fs:0")
		refused(t, api.ErrSyntax, name+" %rax", name+" %eax", name+" %al", name+" a", name+" 1", name+" "+name, name+" $1, $2, $3")
		refused(t, api.ErrExpr, name+" ,", name+" $", name+" \"a\"", name+" *", name+" )")
	}
}

// TestP1201WithoutTheirOperands: names whose instructions have some.
func TestP1201WithoutTheirOperands(t *testing.T) {
	for op := 1; op <= api.LastOp; op++ {
		for _, size := range []int{1, 4, 8} {
			for cond := range 16 {
				if name := forms.Name(op, size, cond); name != "" {
					refused(t, api.ErrForm, name)
				}
			}
		}
	}
}

func TestP1201OneOperand(t *testing.T) {
	for name, op := range map[string]int{"neg": api.Neg, "not": api.Not, "inc": api.Inc, "dec": api.Dec} {
		is(t, name+"q %rbx", inst(op, 8, reg(3), none()))
		is(t, name+"l %r9d", inst(op, 4, reg(9), none()))
		is(t, name+"b %sil", inst(op, 1, reg(6), none()))
		is(t, name+"l 8(%rbx)", inst(op, 4, base(3, 8), none()))
		refused(t, api.ErrSyntax, name+"q %ebx", name+"q %bl", name+"l %rbx", name+"l %bl", name+"b %rbx", name+"b %ebx", name+"q x")
		refused(t, api.ErrForm, name+"q $1", name+"q %rax, %rbx", name+"q (%rax), %rbx")
	}
	is(t, "pushq %rbx", inst(api.Push, 8, none(), reg(3)))
	is(t, "pushq 8(%rbx)", inst(api.Push, 8, none(), base(3, 8)))
	is(t, "pushq $-5", inst(api.Push, 8, none(), imm(-5)))
	is(t, "pushq $2147483647", inst(api.Push, 8, none(), imm(math.MaxInt32)))
	is(t, "popq %r15", inst(api.Pop, 8, reg(15), none()))
	is(t, "popq x(%rip)", inst(api.Pop, 8, rip("x", 0, 0), none()))
	refused(t, api.ErrSyntax, "pushq %ebx", "pushq %bl", "popq %ebx", "popq %bl", "pushq x", "popq x")
	refused(t, api.ErrForm, "pushq $2147483648", "popq $1", "pushq %rax, %rbx", "popq %rax, %rbx")
	is(t, "sete %al", parse.Stmt{Kind: parse.Code, Inst: api.Inst{Op: api.Setcc, Size: 1, Cond: 4, To: reg(0)}})
	is(t, "setg (%rax)", parse.Stmt{Kind: parse.Code, Inst: api.Inst{Op: api.Setcc, Size: 1, Cond: 15, To: base(0, 0)}})
	refused(t, api.ErrSyntax, "sete %eax", "sete %rax")
}

// TestP1201Registers: of each name, and each size with each op's.
func TestP1201Registers(t *testing.T) {
	letters := map[int]string{1: "b", 4: "l", 8: "q"}
	for size, letter := range letters {
		for r := range 16 {
			for other := range letters {
				text := "mov" + letter + " %" + forms.Register(r, other) + ", %" + forms.Register(15-r, size)
				turned := "mov" + letter + " %" + forms.Register(15-r, size) + ", %" + forms.Register(r, other)
				if other == size {
					is(t, text, inst(api.Mov, size, reg(15-r), reg(r)))
					is(t, turned, inst(api.Mov, size, reg(r), reg(15-r)))
				} else {
					refused(t, api.ErrSyntax, text, turned)
				}
			}
		}
	}
	refused(t, api.ErrSyntax, "movq %foo, %rax", "movq %rax, %foo", "movq %rip, %rax", "movq %rax, %rip", "movq %fs, %rax", "movq %rax, %fs", "movq %gs, %rax", "movw %ax, %bx", "movb %ah, %al", "movq %RAX, %rax", "movq %xmm0, %rax", "movq %r16, %rax", "movq %rax:8, %rax", "movq %gs:8, %rax")
}

func TestP1201RegisterSizes(t *testing.T) {
	is(t, "movzbl %cl, %eax", inst(api.Movzx, 4, reg(0), reg(1)))
	is(t, "movzbq %sil, %rax", inst(api.Movzx, 8, reg(0), reg(6)))
	is(t, "movsbl %r8b, %eax", inst(api.Movsx, 4, reg(0), reg(8)))
	is(t, "movsbq 8(%rax), %rax", inst(api.Movsx, 8, reg(0), base(0, 8)))
	for _, name := range []string{"movzb", "movsb"} {
		refused(t, api.ErrSyntax, name+"l %ecx, %eax", name+"l %rcx, %eax", name+"l %cl, %al", name+"l %cl, %rax", name+"q %cl, %eax", name+"q %rcx, %rax", name+"q %cl, %al", name+"l (%rax), %al", name+"l %al", name+"q %eax")
		refused(t, api.ErrForm, name+"l $1, %eax", name+"l %cl, (%rax)", name+"l (%rax)", name+"q %rax")
	}
	for name, op := range map[string]int{"shl": api.Shl, "shr": api.Shr, "sar": api.Sar} {
		is(t, name+"q %cl, %rdx", inst(op, 8, reg(2), reg(1)))
		is(t, name+"l %cl, %ecx", inst(op, 4, reg(1), reg(1)))
		is(t, name+"b %cl, (%rax)", inst(op, 1, base(0, 0), reg(1)))
		is(t, name+"q $63, %rdx", inst(op, 8, reg(2), imm(63)))
		refused(t, api.ErrSyntax, name+"q %rcx, %rdx", name+"q %ecx, %rdx", name+"q %al, %rdx", name+"q %dl, %rdx", name+"q %rax, %rdx", name+"l %eax, %edx", name+"b %al, %dl", name+"q %cl, %edx", name+"q %cl, %cl", name+"q %cl", name+"l %rcx, (%rax)", name+"q %spl, (%rax)")
		refused(t, api.ErrForm, name+"q $64, %rdx", name+"l $32, %edx", name+"q $-1, %rdx", name+"q %rdx", name+"q (%rax)", name+"b %cl", name+"q (%rax), %rdx")
	}
	is(t, "xchgq %rax, (%rbx)", inst(api.Xchg, 8, base(3, 0), reg(0)))
	is(t, "imull (%rax), %ebx", inst(api.Imul, 4, reg(3), base(0, 0)))
	is(t, "cmovnel %eax, %ebx", parse.Stmt{Kind: parse.Code, Inst: api.Inst{Op: api.Cmov, Size: 4, Cond: 5, To: reg(3), From: reg(0)}})
	refused(t, api.ErrSyntax, "xchgq %eax, (%rbx)", "imull (%rax), %rbx", "cmovnel %rax, %ebx", "leaq (%rax), %eax", "leal (%rax), %rax", "testb %eax, %al", "pushq %eax, %rax", "popq %rax, %eax", "call *%eax", "jmp *%al", "call *%rax, *%eax")
	refused(t, api.ErrForm, "xchgq (%rbx), %rax", "imull %eax, (%rbx)", "leaq %rax, %rbx", "leaq %fs:0, %rax", "testq (%rax), %rbx", "call *%rax, *%rbx", "pushq %rax, %rax")
}

func TestP1201Numbers64(t *testing.T) {
	for _, n := range []int{0, 1, -1, 127, 128, 255, math.MaxInt32, math.MinInt32, math.MaxInt32 + 1, math.MinInt32 - 1, math.MaxInt, math.MinInt} {
		is(t, fmt.Sprintf("movq $%d, %%rax", n), inst(api.Mov, 8, reg(0), imm(n)))
	}
	is(t, "movq $0xffffffffffffffff, %rax", inst(api.Mov, 8, reg(0), imm(-1)))
	is(t, "movl $4294967295, (%rax)", inst(api.Mov, 4, base(0, 0), imm(math.MaxUint32)))
	is(t, "addb $'a', %al", inst(api.Add, 1, reg(0), imm(97)))
	refused(t, api.ErrForm, "movl $4294967296, %eax", "movl $-2147483649, %eax", "movq $4294967295, (%rax)", "addq $2147483648, %rax", "addb $-129, %al", "movq %rax, $1", "movq $1, $2", "cmpq %rax, $1")
	refused(t, api.ErrSyntax, "movq $1 2, %rax", "movq $1(%rax), %rax", "movq $x@tpoff, %rax", "movq 1, %rax")
	refused(t, api.ErrExpr, "movq $$1, %rax", "movq $%rax, %rax", "movq $\"a\", %rax", "movq $, %rax", "movq $")
}

func TestP1201Memory(t *testing.T) {
	for text, want := range map[string]api.Operand{
		"(%rax)":                   base(0, 0),
		"( %r15 )":                 base(15, 0),
		"0(%rsp)":                  base(4, 0),
		"8(%rbp)":                  base(5, 8),
		"-8(%rbp)":                 base(5, -8),
		"+8(%rbp)":                 base(5, 8),
		"~0(%rbp)":                 base(5, -1),
		"(8)(%rbp)":                base(5, 8),
		"((8))(%rbp)":              base(5, 8),
		"(2 + 3) * 2(%rbp)":        base(5, 10),
		"1 + (2)(%rbp)":            base(5, 3),
		"-2147483648(%rbp)":        base(5, math.MinInt32),
		"2147483647(%rbp)":         base(5, math.MaxInt32),
		"a - a + 3(%rbp)":          base(5, 3),
		"(%rax,%rbx,1)":            indexed(0, 3, 1, 0),
		"(%rax, %rbx, 2)":          indexed(0, 3, 2, 0),
		"8(%rsp,%rbp,4)":           indexed(4, 5, 4, 8),
		"-1(%r8,%r15,8)":           indexed(8, 15, 8, -1),
		"(%rax,%rax,2 + 2)":        indexed(0, 0, 4, 0),
		"(%rax,%rbx,(8))":          indexed(0, 3, 8, 0),
		"(%rip)":                   rip("", 0, 0),
		"8(%rip)":                  rip("", 0, 8),
		"-8(%rip)":                 rip("", 0, -8),
		"x(%rip)":                  rip("x", 0, 0),
		".L1+8(%rip)":              rip(".L1", 0, 8),
		"8+x(%rip)":                rip("x", 0, 8),
		"x-8 * 2(%rip)":            rip("x", 0, -16),
		".(%rip)":                  rip(".", 0, 0),
		".+5(%rip)":                rip(".", 0, 5),
		"short(%rip)":              rip("short", 0, 0),
		"(x)(%rip)":                rip("x", 0, 0),
		"x - y + y(%rip)":          rip("x", 0, 0),
		"x@gotpcrel(%rip)":         rip("x", api.GotPcrel, 0),
		"x @ gottpoff ( %rip )":    rip("x", api.GotTpoff, 0),
		"x@gottpoff+0(%rip)":       rip("x", api.GotTpoff, 0),
		"x@gotpcrel+8-8(%rip)":     rip("x", api.GotPcrel, 0),
		"x@tpoff(%rax)":            named(base(0, 0), "x", api.Tpoff),
		"x@tpoff+8(%rax)":          named(base(0, 8), "x", api.Tpoff),
		"x@dtpoff-8(%rax)":         named(base(0, -8), "x", api.Dtpoff),
		"x@dtpoff+(8)(%rax)":       named(base(0, 8), "x", api.Dtpoff),
		"x@dtpoff- -8(%rax)":       named(base(0, 8), "x", api.Dtpoff),
		"x@tpoff+8(%rax,%rbx,4)":   named(indexed(0, 3, 4, 8), "x", api.Tpoff),
		".@tpoff(%rax)":            named(base(0, 0), ".", api.Tpoff),
		"%fs:0":                    fs("", 0, 0),
		"%fs:8":                    fs("", 0, 8),
		"%fs : -8":                 fs("", 0, -8),
		"%fs:(8)":                  fs("", 0, 8),
		"%fs:8 * (2 + 1)":          fs("", 0, 24),
		"%fs:v@tpoff":              fs("v", api.Tpoff, 0),
		"%fs:v@tpoff+8":            fs("v", api.Tpoff, 8),
		"%fs:v@tpoff-2147483648":   fs("v", api.Tpoff, math.MinInt32),
		long(255) + "@tpoff(%rax)": named(base(0, 0), long(255), api.Tpoff),
	} {
		is(t, "movq "+text+", %rcx", inst(api.Mov, 8, reg(1), want))
		is(t, "movb %cl, "+text, inst(api.Mov, 1, want, reg(1)))
		is(t, "incl "+text, inst(api.Inc, 4, want, none()))
		is(t, "call *"+text, inst(api.Call, 8, want, none()))
		is(t, "jmp *"+text, jmp(false, want))
		is(t, "pushq "+text, inst(api.Push, 8, none(), want))
		refused(t, api.ErrSyntax, "movq "+text+" 1, %rcx", "movq %rcx, "+text+" x", "movq "+text+"), %rcx", "incl "+text+" %rax", "jne "+text, "jne *"+text)
	}
}

// TestP1201NoMemory: shapes that are none, and such as Check refuses.
func TestP1201NoMemory(t *testing.T) {
	refused(t, api.ErrSyntax,
		"incl x", "incl 8", "incl x+8", "incl (8)", "incl -8", "incl x@tpoff", "incl x@tpoff+8", "incl x@gotpcrel", "incl .",
		"incl x-y(%rip)", "incl -x(%rip)", "incl -x+8(%rax)", "incl x-y+8(%rax)", "incl %fs:-x", "incl %fs:x-y",
		"incl x@foo(%rip)", "incl x@(%rip)", "incl x@1(%rip)", "incl x@PLT(%rip)", "incl x@@tpoff(%rax)", "incl x@gotpcrelx(%rip)", "incl x@\"tpoff\"(%rax)", "incl x@tpoff@tpoff(%rax)", "incl x@tpoff 8(%rax)", "incl x@tpoff*8(%rax)", "incl x@tpoff(8)(%rax)", "incl 8@tpoff(%rax)", "incl x+8@tpoff(%rax)", "incl 8+x@tpoff(%rax)", "incl (x)@tpoff(%rax)",
		"incl (%eax)", "incl (%al)", "incl (%foo)", "incl (%fs)", "incl (%rax", "incl (%rax))", "incl (%rax 1)", "incl (%rax%rbx)", "incl (%rax,)", "incl (%rax,%rbx)", "incl (%rax,%rbx,1", "incl (%rax,%rbx,1 2)", "incl (%rax,%rbx,1,2)", "incl (%rax,2)", "incl (%rax,,2)", "incl (%rax,%ebx,2)", "incl (%rax,%bl,2)", "incl (%rax,%rip,2)", "incl (%rax,%foo,2)", "incl (%rax %rbx 2)", "incl (%rax:%rbx,1)", "incl (%eax,%rbx,2)", "incl (%rip,%rax,1)", "incl (%rip,%rax)", "incl (%rip 8)", "incl (%rip", "incl (%rip)8", "incl (%rax)8", "incl (%rax)(%rbx)", "incl (%rax)+8", "incl (%fs:8)", "incl (%rip:8)",
		"incl 8()", "incl 8(8)", "incl 8(x)", "incl 8(,%rax,1)", "incl 8((%rax))", "incl 8 %rax", "incl 8(%rax", "incl x()", "incl x(8)", "incl 8(-8)", "incl (8)(8)", "incl 8(\"x\")", "incl 8(%eax)", "incl 8:(%rax)",
		"incl %fs:8(%rax)", "incl %fs:x@tpoff(%rax)", "incl %fs:8(%rip)", "incl %fs:8 9", "incl %fs", "incl %fs 8", "incl %fs(%rax)", "incl %gs:8", "incl %cs:8", "incl %FS:8", "incl %fs:8:8", "incl %rax:8", "incl %fs,8", "incl fs:8", "incl 8(rip)", "incl x(rip)", "incl 8(\"rip\")", "incl 8(rax)", "incl (rip)", "incl (x)(rip)", "incl (%rax,rbx,1)",
		"incl (%rax,%rbx,0)", "incl (%rax,%rbx,3)", "incl (%rax,%rbx,-1)", "incl (%rax,%rbx,5)", "incl (%rax,%rbx,6)", "incl (%rax,%rbx,7)", "incl (%rax,%rbx,9)", "incl (%rax,%rbx,16)", "incl (%rax,%rbx,0x8000000000000000)", "incl (%rax,%rbx,x)", "incl (%rax,%rsp,3)",
	)
	refused(t, api.ErrExpr,
		"incl (", "incl ()", "incl ((%rax))", "incl (,%rax,1)", "incl (,)", "incl (8", "incl (x(%rax))", "incl -(%rax)", "incl 8+(%rax)", "incl 8-(%rip)", "incl x*(%rax)", "incl x+y(%rax)", "incl 2*x(%rax)", "incl 1/0(%rax)", "incl ~x(%rax)", "incl x@tpoff+(%rax)", "incl x@tpoff-", "incl x@tpoff+y+z(%rax)", "incl %fs:", "incl %fs:(%rax)", "incl %fs:%rax", "incl %fs:%fs:8", "incl %fs::8", "incl %fs:$8", "incl %fs:*8", "incl %fs:(%rip)", "incl %fs:,", "incl %fs:v@tpoff+", "incl \"x\"(%rax)", "incl \"fs\":8", "incl (\"rip\")", "incl *8(%rax)", "incl *%rax", "incl )", "incl @tpoff(%rax)", "incl (%rax,%rbx,)", "incl (%rax,%rbx,%rcx)", "incl (%rax,%rbx,$1)", "incl (%rax,%rbx,1+)",
	)
	refused(t, api.ErrForm,
		"incl (%rax,%rsp,1)", "incl 8(%rsp,%rsp,8)", "incl 2147483648(%rax)", "incl -2147483649(%rax)", "incl x+2147483648(%rip)", "incl %fs:2147483648", "incl %fs:-2147483649", "incl 0x7fffffffffffffff(%rip)",
		"incl x(%rax)", "incl x+8(%rax)", "incl x(%rax,%rbx,1)", "incl %fs:x", "incl %fs:x+8", "incl x@plt(%rip)", "incl x@plt(%rax)", "incl x@gotpcrel(%rax)", "incl x@gottpoff(%rax)", "incl x@tpoff(%rip)", "incl x@dtpoff(%rip)", "incl x@gotpcrel+8(%rip)", "incl x@gottpoff-8(%rip)", "incl x@tpoff+2147483648(%rax)", "incl %fs:x@gotpcrel", "incl %fs:x@dtpoff", "incl %fs:x@plt", "incl %fs:x@gottpoff", "leaq %fs:0, %rax", "movq (%rax), (%rbx)", "addq 8(%rax), 8(%rbx)",
	)
}

// TestP1201Mods: each of them is told, as Check's answer shows, and as the operand has it.
func TestP1201Mods(t *testing.T) {
	is(t, "call f@plt", inst(api.Call, 8, target("f", api.Plt, 0), none()))
	is(t, "incl x@gotpcrel(%rip)", inst(api.Inc, 4, rip("x", api.GotPcrel, 0), none()))
	is(t, "incl x@gottpoff(%rip)", inst(api.Inc, 4, rip("x", api.GotTpoff, 0), none()))
	is(t, "incl x@tpoff(%rbx)", inst(api.Inc, 4, named(base(3, 0), "x", api.Tpoff), none()))
	is(t, "incl x@dtpoff(%rbx)", inst(api.Inc, 4, named(base(3, 0), "x", api.Dtpoff), none()))
}

// calls: the ops with Targets, and the statement of one to a place.
func calls() map[string]func(to api.Operand) parse.Stmt {
	l := map[string]func(to api.Operand) parse.Stmt{
		"call":      func(to api.Operand) parse.Stmt { return inst(api.Call, 8, to, none()) },
		"jmp":       func(to api.Operand) parse.Stmt { return jmp(false, to) },
		"jmp short": func(to api.Operand) parse.Stmt { return jmp(true, to) },
	}
	for cond := range 16 {
		name := forms.Name(api.Jcc, 8, cond)
		l[name] = func(to api.Operand) parse.Stmt { return jcc(cond, false, to) }
		l[name+" short"] = func(to api.Operand) parse.Stmt { return jcc(cond, true, to) }
	}
	return l
}

func TestP1201Targets(t *testing.T) {
	for name, want := range calls() {
		for text, to := range map[string]api.Operand{
			"f": target("f", 0, 0), ".L1": target(".L1", 0, 0), "nop": target("nop", 0, 0), ".": target(".", 0, 0), "..": target("..", 0, 0), "rax": target("rax", 0, 0),
			"f@plt": target("f", api.Plt, 0), "f @ plt": target("f", api.Plt, 0), ".@plt": target(".", api.Plt, 0), "plt@plt": target("plt", api.Plt, 0),
			".+5": target("", 0, 5), ". + 5": target("", 0, 5), ".-5": target("", 0, -5), ".+0": target("", 0, 0), ".-0": target("", 0, 0), ".+(2)*3-1": target("", 0, 5), ".- -5": target("", 0, 5), ".+127": target("", 0, 127), ".-128": target("", 0, -128), ".+~0": target("", 0, -1),
			long(255): target(long(255), 0, 0),
		} {
			is(t, name+" "+text, want(to))
			refused(t, api.ErrSyntax, name+" "+text+" g", name+" "+text+" 5", name+" "+text+"(%rip)", name+" "+text+" %rax", name+" "+text+")", name+" "+text+"@gotpcrel")
			refused(t, api.ErrForm, name+" "+text+", f", name+" f, "+text, name+" "+text+", .+5")
		}
		refused(t, api.ErrSyntax, name+" 5", name+" (f)", name+" -5", name+" +5", name+" %rax", name+" 8(%rax)", name+" (%rax)", name+" $5", name+" \"f\"", name+" f+5", name+" f-5", name+" f+", name+" 5+", name+" f@tpoff", name+" f@", name+" f@1", name+" f@PLT", name+" f@plt+5", name+" f@plt@plt", name+" f(%rip)", name+" .*5", name+" .(5)", name+" ..+5", name+" .L+5", name+" f,", name+" ,", name+" @plt", name+" %fs:0", name+" f g", name+" .+5 5", name+" f, g, h", name+" .+x", name+" .-x", name+" f, %rax", name+" f, 5", name+" = f")
		refused(t, api.ErrExpr, name+" .+", name+" .-", name+" .+(", name+" .+,", name+" .+*5", name+" .+1/0", name+" f, .+", name+" .+x+y")
		if name != "call" {
			refused(t, api.ErrSyntax, name+" short"+" short"+" short")
		}
	}
	for _, name := range []string{"call", "jmp", "jne", "jg"} {
		for _, n := range []int{math.MinInt32, math.MaxInt32, 128, -129} {
			is(t, fmt.Sprintf("%s .%+d", name, n), calls()[name](target("", 0, n)))
		}
		refused(t, api.ErrForm, name+" .+2147483648", name+" .-2147483649", name+" .+0x7fffffffffffffff")
	}
	refused(t, api.ErrForm, "jmp short .+128", "jmp short .-129", "jne short .+2147483647")
	refused(t, api.ErrSyntax, "je *%rax", "je *(%rax)", "je short *%rax", "je *f", "je *")
}

func TestP1201Short(t *testing.T) {
	for _, name := range []string{"jmp", "jne", "jo"} {
		far, near := calls()[name], calls()[name+" short"]
		is(t, name+" short", far(target("short", 0, 0)))
		is(t, name+" short; nop", far(target("short", 0, 0)), nop())
		is(t, name+" short # x", far(target("short", 0, 0)))
		is(t, name+" short a", near(target("a", 0, 0)))
		is(t, name+" short short", near(target("short", 0, 0)))
		is(t, name+" short a@plt", near(target("a", api.Plt, 0)))
		is(t, name+" short .", near(target(".", 0, 0)))
		is(t, name+" shorts", far(target("shorts", 0, 0)))
		is(t, name+" Short", far(target("Short", 0, 0)))
		refused(t, api.ErrSyntax, name+" short, a", name+" short@plt", name+" short+5", name+" short(%rip)", name+" short 5", name+" short \"a\"", name+" short,", name+" short :", name+" Short a", name+" a short", name+" short a b", name+" %short a", name+" short short short")
		refused(t, api.ErrForm, name+" short a, b", name+" short a, short", name+" a, short")
	}
	is(t, "call short", calls()["call"](target("short", 0, 0)))
	is(t, "call short@plt", calls()["call"](target("short", api.Plt, 0)))
	refused(t, api.ErrSyntax, "call short a", "nop short", "incl short %eax", "movq short, %rax", "call short short")
	refused(t, api.ErrForm, "jmp short *%rax", "jmp short *8(%rax)", "call short, a", "jmp short a, *%rax")
	is(t, "incl short(%rip)", inst(api.Inc, 4, rip("short", 0, 0), none()))
}

func TestP1201Stars(t *testing.T) {
	is(t, "call *%rax", inst(api.Call, 8, reg(0), none()))
	is(t, "call * %r15", inst(api.Call, 8, reg(15), none()))
	is(t, "jmp *%rbx", jmp(false, reg(3)))
	is(t, "jmp *8(%rbx)", jmp(false, base(3, 8)))
	is(t, "jmp *f@gotpcrel(%rip)", jmp(false, rip("f", api.GotPcrel, 0)))
	for _, name := range []string{"call", "jmp"} {
		refused(t, api.ErrSyntax, name+" %rax", name+" *%eax", name+" *%al", name+" *%foo", name+" *%rip", name+" *f", name+" *8", name+" *f@plt", name+" *.+5", name+" *%rax %rbx", name+" *%fs:8(%rax)", name+" *(%rax) f", name+" *f g", name+" *short f", name+" *%rax, %rbx", name+" *%rax,", name+" *%rax, 5")
		refused(t, api.ErrExpr, name+" *", name+" **%rax", name+" *\"f\"", name+" *,", name+" *(%rax,%rbx,", name+" *()", name+" *%fs:", name+" f, *", name+" *%rax, *")
		refused(t, api.ErrExpr, name+" *+", name+" *-", name+" *)", name+" *@plt", name+" *: 5", name+" *+$5", name+" *%fs:$5", name+" *(%rax,%rbx,$1)", name+" f, *+")
		refused(t, api.ErrForm, name+" *%rax, *%rbx", name+" *%rax, f", name+" f, *%rax", name+" *f(%rax)", name+" *(%rax,%rsp,1)", name+" *(%rax), .+5")
	}
}

// TestP1201NoImmBehindStars: it is wrong at its $, whatever stands behind that.
func TestP1201NoImmBehindStars(t *testing.T) {
	for name := range calls() {
		for _, behind := range []string{"5", "x", "", "+", "1 +", "1/0", "x + y", "$", "$5", "*", "%rax", "(%rax)", "5(%rip)", "\"f\"", ",", "5, %rax", "5, f", "5, *$5", "5, +", "5 5"} {
			refused(t, api.ErrSyntax, name+" *$"+behind, name+" * $ "+behind, name+" f, *$"+behind, name+" f@plt, *$"+behind, name+" .+5, *$"+behind)
		}
		refused(t, api.ErrSyntax, name+" $", name+" $5", name+" $5, *%rax", name+" f, $")
	}
	for _, name := range []string{"call", "jmp", "jmp short"} {
		refused(t, api.ErrSyntax, name+" *%rax, *$5", name+" *%rax, *$", name+" *8(%rax), *$x", name+" *%eax, *$5", name+" *(%rax,%rsp,1), *$", "nop; a: "+name+" *$5 # x")
	}
}

// TestP1201TwoOperands: the first one is From, the second one To, of all ops.
func TestP1201TwoOperands(t *testing.T) {
	for name, op := range map[string]int{"mov": api.Mov, "add": api.Add, "or": api.Or, "adc": api.Adc, "sbb": api.Sbb, "and": api.And, "sub": api.Sub, "xor": api.Xor, "cmp": api.Cmp} {
		is(t, name+"q %rax, %rbx", inst(op, 8, reg(3), reg(0)))
		is(t, name+"l %eax, 8(%rbx)", inst(op, 4, base(3, 8), reg(0)))
		is(t, name+"b x(%rip), %bl", inst(op, 1, reg(3), rip("x", 0, 0)))
		is(t, name+"l $5, %ebx", inst(op, 4, reg(3), imm(5)))
		is(t, name+"q $5, %fs:8", inst(op, 8, fs("", 0, 8), imm(5)))
		refused(t, api.ErrSyntax, name+"q %rax %rbx", name+"q %rax, %rbx,", name+"q %rax, %rbx, %rcx", name+"q %rax, %rbx %rcx", name+"q %rax = %rbx")
		refused(t, api.ErrExpr, name+"q %rax,", name+"q , %rbx", name+"q %rax,, %rbx", name+"q ,")
		refused(t, api.ErrForm, name+"q %rbx", name+"q (%rbx)", name+"q $5", name+"q (%rax), (%rbx)")
	}
	is(t, "testl %eax, %ebx", inst(api.Test, 4, reg(3), reg(0)))
	is(t, "leaq f(%rip), %rdi", inst(api.Lea, 8, reg(7), rip("f", 0, 0)))
}

// sampleOperands: of each shape, with edges.
func sampleOperands() []api.Operand {
	l := []api.Operand{
		none(), imm(0), imm(5), imm(-129), imm(255), imm(256), imm(63), imm(math.MaxInt32), imm(math.MaxInt32 + 1), imm(math.MinInt), imm(math.MaxUint32),
		base(0, 0), base(4, -8), base(13, math.MaxInt32), indexed(5, 1, 8, math.MinInt32), indexed(12, 15, 1, 0), named(base(3, 8), "v", api.Tpoff), named(indexed(1, 2, 2, 0), "v", api.Dtpoff),
		rip("", 0, 0), rip("", 0, -5), rip("x", 0, 0), rip(".L1", 0, -4), rip(".", 0, 4), rip("x", api.GotPcrel, 0), rip("short", api.GotTpoff, 0), fs("", 0, 0), fs("", 0, -8), fs("v", api.Tpoff, 0), fs("v", api.Tpoff, 8),
		target("f", 0, 0), target("f", api.Plt, 0), target("short", 0, 0), target(".", 0, 0), target("", 0, 0), target("", 0, 5), target("", 0, -128), target("", 0, 127), target("", 0, 128), target("", 0, math.MinInt32),
	}
	for r := range 16 {
		l = append(l, reg(r))
	}
	return l
}

// instructions: all that Check takes with these operands.
func instructions() []parse.Stmt {
	var l []parse.Stmt
	for op := 1; op <= api.LastOp; op++ {
		for _, size := range []int{0, 1, 4, 8} {
			for cond := range 16 {
				if forms.Name(op, size, cond) == "" {
					continue
				}
				for _, to := range sampleOperands() {
					for _, from := range sampleOperands() {
						for _, short := range []bool{false, true} {
							i := api.Inst{Op: op, Size: size, Cond: cond, To: to, From: from, Short: short}
							if forms.Check(i) == api.OK {
								l = append(l, parse.Stmt{Kind: parse.Code, Inst: i})
							}
						}
					}
				}
			}
		}
	}
	return l
}

// TestP1201EachInstruction: as forms.Text writes it.
func TestP1201EachInstruction(t *testing.T) {
	l := instructions()
	for _, s := range l {
		text, e := forms.Text(s.Inst)
		if e != api.OK {
			t.Fatal(s.Inst, e)
		}
		is(t, text, s)
	}
	if len(l) < 10000 {
		t.Error("few of them:", len(l))
	}
}
