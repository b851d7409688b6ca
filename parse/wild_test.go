package parse_test

import (
	"math"
	"math/rand/v2"
	"slices"
	"strings"
	"testing"

	"gangway/api"
	"gangway/expr"
	"gangway/forms"
	"gangway/lexer"
	"gangway/parse"
)

func seeded(n uint64) *rand.Rand { return rand.New(rand.NewPCG(12, n)) }

func pick[T any](random *rand.Rand, l []T) T { return l[random.IntN(len(l))] }

// lines: right ones, of each row and shape.
func lines() []string {
	l := strings.Split(strings.TrimSpace(`
f:
a: b: nop
.text
.data
.bss
.rodata
.section .tbss
.section .x, "awxT"
.section .x, "wa", @nobits
.section .y, "", @init_array
.byte 1
.long a - b + 4, 7, -c
.quad 0x10, 'a', (1 + 2) * 3
.ascii "a", "b\n"
.asciz "", "x"
.balign 8
.balign 4096, 255
.zero 1048576
.zero 0, 0
.globl f
.weak .L1
.local g
.type f, @function
.type v, @tls_object
.type i, @gnu_indirect_function
.size f, . - f
.set k, 5
.set s, a + 4
.cfi_startproc
.cfi_endproc
.cfi_remember_state
.cfi_restore_state
.cfi_def_cfa %rsp, 8
.cfi_offset %rbp, -16
.cfi_rel_offset 6, 0x7fffffff
.cfi_def_cfa_offset 16
.cfi_adjust_cfa_offset -8
.cfi_def_cfa_register %rbp
.cfi_restore 16
.cfi_undefined %r12
.cfi_same_value %rbx
.file 1 "a.s"
.loc 1 2
.loc 255 0 65535
.tlsgd v
.tlsld
ret
nop
movq %rax, %rbx
movl $5, %eax
movb %al, -8(%rbp)
movq (%rax,%rbx,8), %rcx
addq x+8(%rip), %r9
movq x@gotpcrel(%rip), %rax
addq v@gottpoff(%rip), %rax
movl v@tpoff+4(%rax), %eax
leaq v@dtpoff-4(%rax,%rcx,1), %rax
movq %fs:0, %rax
movq %fs:v@tpoff, %rax
incl 8(%rsp)
pushq %rbp
pushq $-1
popq %rbp
call f
call f@plt
call *%rax
call *8(%rax)
jmp .L1
jmp short .L1
jmp .+5
jmp *x@gotpcrel(%rip)
jne short .-5
jg short
sete %al
cmovlq (%rax), %rdx
movzbl %al, %eax
movsbq (%rax), %rdx
shlq %cl, %rdx
sarl $31, %edx
xchgq %rax, (%rbx)
imulq %rax, %rbx
testb $1, %al
`), "\n")
	return l
}

// someTokens: of all sorts, for each place of a line.
func someTokens() []lexer.Token {
	var l []lexer.Token
	for _, text := range []string{"a", "x", "k", "s", ".", "short", "plt", "tpoff", "gotpcrel", "nop", "movq", "f", ".byte", ".set", "progbits", "object"} {
		l = append(l, lexer.Token{Kind: lexer.Name, Text: text})
	}
	for _, n := range []int{0, 1, 2, 3, 4, 8, 16, 17, 255, 256, 4096, 65536, 1 << 20, 1<<31 - 1, 1 << 31, -1} {
		l = append(l, lexer.Token{Kind: lexer.Number, N: n})
	}
	for _, text := range []string{",", "(", ")", ":", "$", "+", "-", "*", "/", "&", "~", "@", "=", "|", "^", "<<", ">>", ",", ",", "(", ")", "$", "+", "-", "*", "@"} {
		l = append(l, lexer.Token{Kind: lexer.Sign, Text: text})
	}
	for _, text := range []string{"rax", "rbx", "eax", "al", "cl", "rcx", "rip", "fs", "rsp", "foo", "r8d"} {
		l = append(l, lexer.Token{Kind: lexer.Register, Text: text})
	}
	for _, text := range []string{"", "a", "aw", "aa", "wT", "\x00", long(256)} {
		l = append(l, lexer.Token{Kind: lexer.Text, Text: text})
	}
	return append(l, lexer.Token{Kind: lexer.End})
}

// spoiled: tokens with one of them gone, twice, another one, changed for its neighbour, or with one more.
func spoiled(random *rand.Rand, l []lexer.Token) []lexer.Token {
	l = slices.Clone(l)
	if len(l) == 0 {
		return l
	}
	at := random.IntN(len(l))
	switch random.IntN(6) {
	case 0:
		return slices.Delete(l, at, at+1)
	case 1:
		return slices.Insert(l, at, l[at])
	case 2, 3:
		l[at] = pick(random, someTokens())
	case 4:
		other := random.IntN(len(l))
		l[at], l[other] = l[other], l[at]
	case 5:
		return slices.Insert(l, at, pick(random, someTokens()))
	}
	return l
}

func checkModel(t *testing.T, text string) api.Errno {
	t.Helper()
	l, line, e := modelAll(text)
	checkAll(t, text, l, line, e)
	return e
}

// printed: tokens as a text.
func printed(t *testing.T, l []lexer.Token) string {
	t.Helper()
	text, e := lexer.Print(l)
	if e != api.OK {
		t.Fatal(l, e)
	}
	return text
}

func tokensOf(t *testing.T, text string) []lexer.Token {
	t.Helper()
	l, _, e := lexer.All(text)
	if e != api.OK {
		t.Fatal(text, e)
	}
	return l
}

// TestP1201RightLines: all of them are right, as the model has them.
func TestP1201RightLines(t *testing.T) {
	for _, line := range lines() {
		if e := checkModel(t, line); e != api.OK {
			t.Error(line, e)
		}
	}
	checkModel(t, strings.Join(lines(), "\n"))
	checkModel(t, strings.Join(lines(), ";"))
}

// TestP1201EachPlace: each token of each right line made another one, gone, or with another one ahead of it.
func TestP1201EachPlace(t *testing.T) {
	ends := map[api.Errno]int{}
	for _, line := range lines() {
		l := tokensOf(t, line)
		for at := range l {
			for _, token := range someTokens() {
				ends[checkModel(t, printed(t, slices.Concat(l[:at], []lexer.Token{token}, l[at:])))]++
				ends[checkModel(t, printed(t, slices.Concat(l[:at], []lexer.Token{token}, l[at+1:])))]++
			}
			checkModel(t, printed(t, slices.Concat(l[:at], l[at+1:])))
			checkModel(t, printed(t, l[:at]))
			checkModel(t, printed(t, l[at:]))
		}
	}
	for _, e := range []api.Errno{api.OK, api.ErrSyntax, api.ErrExpr, api.ErrForm} {
		if ends[e] < 200 {
			t.Error("the lines are too much alike", ends)
		}
	}
}

// TestP1201SpoiledTexts: of several lines, each spoiled now and then, behind what is set.
func TestP1201SpoiledTexts(t *testing.T) {
	random := seeded(1)
	ends := map[api.Errno]int{}
	for range 12000 {
		var l []lexer.Token
		for range 1 + random.IntN(4) {
			line := tokensOf(t, pick(random, lines()))
			for random.IntN(3) == 0 {
				line = spoiled(random, line)
			}
			l = append(l, line...)
		}
		ends[checkModel(t, printed(t, l))]++
	}
	for _, e := range []api.Errno{api.OK, api.ErrSyntax, api.ErrExpr, api.ErrForm} {
		if ends[e] < 100 {
			t.Error("the texts are too much alike", ends)
		}
	}
}

// TestP1201EachShortLine: a few names with each row of up to three tokens behind them.
func TestP1201EachShortLine(t *testing.T) {
	few := tokensOf(t, "a . short 4 , ( ) $ + * @ %rax %cl %fs : \"a\"")
	for _, name := range []string{"nop", "jmp", "jne", "incq", "movq", "shlq", ".byte", ".section", ".balign", ".cfi_offset", ".loc", ".file", ".set", ".ascii", ".text"} {
		var grow func(l []lexer.Token)
		grow = func(l []lexer.Token) {
			checkModel(t, printed(t, l))
			if len(l) == 4 {
				return
			}
			for _, token := range few {
				grow(append(l[:len(l):len(l)], token))
			}
		}
		grow([]lexer.Token{{Kind: lexer.Name, Text: name}})
	}
}

// TestP1201OperandsOfAllOps: each name with one and two operands of many shapes, right and wrong.
func TestP1201OperandsOfAllOps(t *testing.T) {
	shapes := []string{"%rax", "%ecx", "%cl", "%dl", "%foo", "$1", "$256", "$x", "$", "(%rax)", "8(%rax,%rbx,2)", "(%rax,%rsp,1)", "x(%rip)", "x@tpoff+4(%rcx)", "%fs:8", "f", "f@plt", ".+5", ".+200", "*%rax", "*%eax", "*8(%rbx)", "\"a\"", "8"}
	for op := 1; op <= api.LastOp; op++ {
		for _, size := range []int{0, 1, 4, 8} {
			name := forms.Name(op, size, 0)
			if name == "" {
				continue
			}
			for _, first := range shapes {
				checkModel(t, name+" "+first)
				checkModel(t, name+" short "+first)
				for _, second := range shapes {
					checkModel(t, name+" "+first+", "+second)
				}
			}
		}
	}
}

// wildStmt: a right statement, with a field or two made others.
func wildStmt(random *rand.Rand, right []parse.Stmt) parse.Stmt {
	numbers := []int{math.MinInt, -1 << 31, -16, -1, 0, 1, 2, 3, 4, 6, 8, 10, 14, 15, 16, 17, 255, 256, 1024, 1027, 4096, 65535, 65536, 1 << 20, 1<<20 + 1, 1<<31 - 1, 1 << 31, math.MaxInt}
	names := []string{"", "a", "x", ".L1", ".", "short", "a b", "a+1", "8", "offset", "startproc", "def_cfa", "restore", long(255), long(256), "\x00", "a:", "nop;a", "\n"}
	s := pick(random, right)
	s.Args, s.Values = slices.Clone(s.Args), slices.Clone(s.Values)
	for range random.IntN(3) {
		switch random.IntN(11) {
		case 0:
			s.Kind = random.IntN(19) - 1
		case 1:
			s.Name = pick(random, names)
		case 2:
			s.Text = pick(random, names)
		case 3:
			s.Args = append(s.Args, pick(random, numbers))
		case 4, 5:
			if len(s.Args) > 0 {
				s.Args[random.IntN(len(s.Args))] = pick(random, numbers)
			}
		case 6:
			if len(s.Args) > 0 {
				s.Args = s.Args[1:]
			}
		case 7:
			s.Values = append(s.Values, expr.Value{Plus: pick(random, names), Minus: pick(random, names), N: pick(random, numbers)})
		case 8:
			s.Values = append(s.Values, expr.Value{N: pick(random, numbers)})
		case 9:
			s.Inst.To.N, s.Inst.To.Name = pick(random, numbers), pick(random, names)
		case 10:
			s.Inst.From = pick(random, sampleOperands())
		}
	}
	s.Line = pick(random, numbers)
	return s
}

// TestP1203Wild: as the model has it.
func TestP1203Wild(t *testing.T) {
	random := seeded(2)
	right := everyKind(t)
	for _, line := range lines() {
		right = append(right, all(t, line)...)
	}
	ends := map[api.Errno]int{}
	for range 40000 {
		l := []parse.Stmt{wildStmt(random, right)}
		for random.IntN(4) == 0 {
			l = append(l, wildStmt(random, right))
		}
		text, e := modelText(l)
		checkText(t, l, text, e)
		ends[e]++
	}
	if ends[api.OK] < 1000 || ends[api.ErrSyntax] < 1000 {
		t.Error("the statements are too much alike", ends)
	}
}
