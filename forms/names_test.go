package forms_test

import (
	"math"
	"strings"
	"testing"

	"gangway/api"
	"gangway/forms"
)

// form: what a name tells.
type form struct{ op, size, cond int }

// allNames: each name that there is, written out.
func allNames() map[string]form {
	m := map[string]form{}
	for op, list := range map[int]string{
		api.Mov: "movb movl movq", api.Lea: "- leal leaq", api.Add: "addb addl addq", api.Or: "orb orl orq", api.Adc: "adcb adcl adcq",
		api.Sbb: "sbbb sbbl sbbq", api.And: "andb andl andq", api.Sub: "subb subl subq", api.Xor: "xorb xorl xorq", api.Cmp: "cmpb cmpl cmpq",
		api.Test: "testb testl testq", api.Imul: "- imull imulq", api.Neg: "negb negl negq", api.Not: "notb notl notq", api.Inc: "incb incl incq",
		api.Dec: "decb decl decq", api.Shl: "shlb shll shlq", api.Shr: "shrb shrl shrq", api.Sar: "sarb sarl sarq", api.Push: "- - pushq",
		api.Pop: "- - popq", api.Call: "- - call", api.Jmp: "- - jmp", api.Ret: "- - - ret", api.Leave: "- - - leave", api.Movzx: "- movzbl movzbq",
		api.Movsx: "- movsbl movsbq", api.Xchg: "- xchgl xchgq", api.Cqo: "- - - cqto", api.Nop: "- - - nop", api.Ud2: "- - - ud2", api.Syscall: "- - - syscall",
	} {
		for k, name := range strings.Fields(list) {
			if name != "-" {
				m[name] = form{op, []int{1, 4, 8, 0}[k], 0}
			}
		}
	}
	for list, f := range map[string]form{
		"jo jno jb jae je jne jbe ja js jns jp jnp jl jge jle jg":                                                                 {op: api.Jcc, size: 8},
		"seto setno setb setae sete setne setbe seta sets setns setp setnp setl setge setle setg":                                 {op: api.Setcc, size: 1},
		"cmovol cmovnol cmovbl cmovael cmovel cmovnel cmovbel cmoval cmovsl cmovnsl cmovpl cmovnpl cmovll cmovgel cmovlel cmovgl": {op: api.Cmov, size: 4},
		"cmovoq cmovnoq cmovbq cmovaeq cmoveq cmovneq cmovbeq cmovaq cmovsq cmovnsq cmovpq cmovnpq cmovlq cmovgeq cmovleq cmovgq": {op: api.Cmov, size: 8},
	} {
		for k, name := range strings.Fields(list) {
			m[name] = form{f.op, f.size, k}
		}
	}
	return m
}

func TestP303EachName(t *testing.T) {
	all := allNames()
	if len(all) != 135 {
		t.Fatal("names:", len(all))
	}
	for name, f := range all {
		if got := forms.Name(f.op, f.size, f.cond); got != name {
			t.Errorf("Name(%v): %q; want %q", f, got, name)
		}
		if op, size, cond, ok := forms.Find(name); (form{op, size, cond}) != f || !ok {
			t.Errorf("Find(%q): %d, %d, %d, %v; want %v", name, op, size, cond, ok, f)
		}
	}
}

// TestP303NoName: all ops, sizes and conditions that are not among the names.
func TestP303NoName(t *testing.T) {
	is := map[form]string{}
	for name, f := range allNames() {
		is[f] = name
	}
	ops, conds := []int{math.MinInt, -1, 0, api.LastOp + 1, api.LastOp + 2, 256 + api.Ret, 1<<32 + api.Mov, math.MaxInt}, []int{math.MinInt, -16, 16, 17, 256, 1 << 32, math.MaxInt}
	for op := range api.LastOp {
		ops = append(ops, op+1)
	}
	for cond := -1; cond < 16; cond++ {
		conds = append(conds, cond)
	}
	for _, op := range ops {
		for _, size := range []int{math.MinInt, -8, -1, 0, 1, 2, 3, 4, 5, 6, 7, 8, 9, 12, 13, 16, 256 + 8, 1 << 32, 1<<32 + 8, math.MaxInt} {
			for _, cond := range conds {
				if got := forms.Name(op, size, cond); got != is[form{op, size, cond}] {
					t.Errorf("Name(%d, %d, %d): %q", op, size, cond, got)
				}
			}
		}
	}
}

func checkNotFound(t *testing.T, name string) {
	t.Helper()
	if op, size, cond, ok := forms.Find(name); op != 0 || size != 0 || cond != 0 || ok {
		t.Errorf("Find(%q): %d, %d, %d, %v", name, op, size, cond, ok)
	}
}

func TestP303NotFound(t *testing.T) {
	for _, name := range []string{"", " ", "mov", "movw", "movzx", "movzb", "movsb", "movzbb", "movzwl", "movslq", "MOVQ", "Movq", " movq", "movq ", "movq\x00", "q", "b",
		"j", "set", "cmov", "cmovl", "cmovb", "cmovq", "cmovne", "cmovneb", "setneb", "jneq", "jc", "jz", "jnz", "setz", "cmovzl", "jmpq", "jmpl", "callq", "retq", "cqo", "leaveq", "lea", "leab", "imulb", "imul",
		"xchgb", "pushb", "pushl", "push", "popl", "pop", "salq", "salb", "nopl", "ud", "syscallq", "short", ".", "\xff", "mov\xffq", strings.Repeat("movq", 50000)} {
		checkNotFound(t, name)
	}
}

// TestP303BesideNames: each name with one byte taken off, changed, or put in, is found just if it is a name.
func TestP303BesideNames(t *testing.T) {
	all := allNames()
	try := func(name string) {
		if _, is := all[name]; !is {
			checkNotFound(t, name)
		}
	}
	for name := range all {
		for k := range len(name) {
			try(name[:k])
			try(name[k+1:])
			try(name[:k] + name[k+1:])
			for _, c := range "abelopqsw2 -%\n" {
				try(name[:k] + string(c) + name[k+1:])
				try(name[:k] + string(c) + name[k:])
				try(name + string(c))
			}
		}
		try(strings.ToUpper(name))
		try(name + name)
	}
}

func registerNames() []string {
	return []string{"rax eax al", "rcx ecx cl", "rdx edx dl", "rbx ebx bl", "rsp esp spl", "rbp ebp bpl", "rsi esi sil", "rdi edi dil", "r8 r8d r8b", "r9 r9d r9b", "r10 r10d r10b", "r11 r11d r11b", "r12 r12d r12b", "r13 r13d r13b", "r14 r14d r14b", "r15 r15d r15b"}
}

func TestP303EachRegister(t *testing.T) {
	for r, list := range registerNames() {
		for k, name := range strings.Fields(list) {
			size := []int{8, 4, 1}[k]
			if got := forms.Register(r, size); got != name {
				t.Errorf("Register(%d, %d): %q; want %q", r, size, got, name)
			}
			if gotR, gotSize, ok := forms.Number(name); gotR != r || gotSize != size || !ok {
				t.Errorf("Number(%q): %d, %d, %v; want %d, %d", name, gotR, gotSize, ok, r, size)
			}
		}
	}
}

func TestP303NoRegister(t *testing.T) {
	for _, r := range []int{math.MinInt, -16, -1, 16, 17, 256, 1 << 32, math.MaxInt} {
		for _, size := range []int{-1, 0, 1, 4, 8} {
			if got := forms.Register(r, size); got != "" {
				t.Errorf("Register(%d, %d): %q", r, size, got)
			}
		}
	}
	for r := range 16 {
		for _, size := range []int{math.MinInt, -8, -1, 0, 2, 3, 5, 6, 7, 9, 16, 256 + 8, 1<<32 + 8, math.MaxInt} {
			if got := forms.Register(r, size); got != "" {
				t.Errorf("Register(%d, %d): %q", r, size, got)
			}
		}
	}
	for _, name := range []string{"", "%rax", "%", "ax", "ah", "ch", "sp", "r", "r0", "r7", "r08", "r8w", "r8l", "r8q", "r16", "r16d", "r15bb", "rip", "eip", "fs", "RAX", "Rax", "rax ", " rax", "rax\x00", "\xff", "spll", strings.Repeat("rax", 50000)} {
		if r, size, ok := forms.Number(name); r != 0 || size != 0 || ok {
			t.Errorf("Number(%q): %d, %d, %v", name, r, size, ok)
		}
	}
}

// TestP306NamesAndBack: what Name and Register answer leads back, whatever they are asked.
func TestP306NamesAndBack(t *testing.T) {
	for op := range api.LastOp + 2 {
		for size := range 17 {
			for cond := range 17 {
				name := forms.Name(op, size, cond)
				if gotOp, gotSize, gotCond, ok := forms.Find(name); name != "" && (form{gotOp, gotSize, gotCond} != form{op, size, cond} || !ok) {
					t.Errorf("Find(%q): %d, %d, %d, %v", name, gotOp, gotSize, gotCond, ok)
				}
			}
		}
	}
	for r := range 17 {
		for size := range 17 {
			name := forms.Register(r, size)
			if gotR, gotSize, ok := forms.Number(name); name != "" && (gotR != r || gotSize != size || !ok) {
				t.Errorf("Number(%q): %d, %d, %v", name, gotR, gotSize, ok)
			}
		}
	}
}
