package parse_test

import (
	"fmt"
	"slices"
	"strings"
	"testing"

	"gangway/api"
	"gangway/expr"
	"gangway/parse"
)

func reg(r int) api.Operand { return api.Operand{Kind: api.Reg, R: r} }

func imm(n int) api.Operand { return api.Operand{Kind: api.Imm, N: n} }

func target(name string, mod, n int) api.Operand {
	return api.Operand{Kind: api.Target, Name: name, Mod: mod, N: n}
}

// base: memory behind a register; indexed: with an index.
func base(r, n int) api.Operand {
	return api.Operand{Kind: api.Mem, Base: r, Index: -1, N: n}
}

func indexed(r, index, scale, n int) api.Operand {
	return api.Operand{Kind: api.Mem, Base: r, Index: index, Scale: scale, N: n}
}

func rip(name string, mod, n int) api.Operand {
	return api.Operand{Kind: api.Mem, Base: -1, Index: -1, Rip: true, Name: name, Mod: mod, N: n}
}

func fs(name string, mod, n int) api.Operand {
	return api.Operand{Kind: api.Mem, Base: -1, Index: -1, Fs: true, Name: name, Mod: mod, N: n}
}

func named(o api.Operand, name string, mod int) api.Operand {
	o.Name, o.Mod = name, mod
	return o
}

// inst: an instruction with a size, To and From, in the order of forms' table.
func inst(op, size int, to, from api.Operand) parse.Stmt {
	return parse.Stmt{Kind: parse.Code, Inst: api.Inst{Op: op, Size: size, To: to, From: from}}
}

func jcc(cond int, short bool, to api.Operand) parse.Stmt {
	return parse.Stmt{Kind: parse.Code, Inst: api.Inst{Op: api.Jcc, Size: 8, Cond: cond, To: to, Short: short}}
}

func jmp(short bool, to api.Operand) parse.Stmt {
	return parse.Stmt{Kind: parse.Code, Inst: api.Inst{Op: api.Jmp, Size: 8, To: to, Short: short}}
}

func label(name string) parse.Stmt { return parse.Stmt{Kind: parse.Label, Name: name} }

// of: a statement with a name and args, each of which may be none.
func of(kind int, name string, args ...int) parse.Stmt {
	return parse.Stmt{Kind: kind, Name: name, Args: args}
}

func valued(kind int, name string, l ...expr.Value) parse.Stmt {
	return parse.Stmt{Kind: kind, Name: name, Values: l}
}

func data(size int, l ...expr.Value) parse.Stmt {
	return parse.Stmt{Kind: parse.Data, Args: []int{size}, Values: l}
}

func ascii(text string) parse.Stmt { return parse.Stmt{Kind: parse.Ascii, Text: text} }

func file(n int, text string) parse.Stmt {
	return parse.Stmt{Kind: parse.File, Args: []int{n}, Text: text}
}

func num(n int) expr.Value { return expr.Value{N: n} }

func val(plus, minus string, n int) expr.Value { return expr.Value{Plus: plus, Minus: minus, N: n} }

// nop: what stands beside other statements.
func nop() parse.Stmt { return inst(api.Nop, 0, api.Operand{}, api.Operand{}) }

// long: a name of so many bytes.
func long(n int) string { return strings.Repeat("n", n) }

func sameStmt(a, b parse.Stmt) bool {
	return a.Kind == b.Kind && a.Line == b.Line && a.Name == b.Name && a.Text == b.Text && a.Inst == b.Inst && slices.Equal(a.Args, b.Args) && slices.Equal(a.Values, b.Values)
}

// checkAll: these statements, or none, and the line and the error.
func checkAll(t *testing.T, text string, l []parse.Stmt, line int, e api.Errno) {
	t.Helper()
	got, gotLine, gotE := parse.All(text)
	if !slices.EqualFunc(got, l, sameStmt) || gotLine != line || gotE != e {
		t.Fatalf("All(%s):\n%s, %d, %d; want\n%s, %d, %d", short(text), short(got), gotLine, gotE, short(l), line, e)
	}
}

// atLine: the same statements, all of that line.
func atLine(line int, l ...parse.Stmt) []parse.Stmt {
	moved := slices.Clone(l)
	for k := range moved {
		moved[k].Line = line
	}
	return moved
}

// is: a text of one line that has these statements.
func is(t *testing.T, text string, l ...parse.Stmt) {
	t.Helper()
	checkAll(t, text, atLine(1, l...), 0, api.OK)
}

// refused: a text of one line, and the same one behind statements on other lines and on its own.
func refused(t *testing.T, e api.Errno, texts ...string) {
	t.Helper()
	for _, text := range texts {
		checkAll(t, text, nil, 1, e)
		checkAll(t, "# x\nnop; a:\n\n.byte 1\n b: nop; c: "+text+"\nmovq\n.byte\n", nil, 5, e)
	}
}

// all: the statements of a text that has no others.
func all(t *testing.T, text string) []parse.Stmt {
	t.Helper()
	l, line, e := parse.All(text)
	if line != 0 || e != api.OK {
		t.Fatalf("All(%s): %d, %d", short(text), line, e)
	}
	return l
}

func checkText(t *testing.T, l []parse.Stmt, text string, e api.Errno) {
	t.Helper()
	if got, gotE := parse.Text(l); got != text || gotE != e {
		t.Fatalf("Text(%s), %d statements:\n%s, %d bytes, %d; want\n%s, %d bytes, %d", short(l), len(l), short(got), len(got), gotE, short(text), len(text), e)
	}
}

// written: one statement's line.
func written(t *testing.T, s parse.Stmt, line string) {
	t.Helper()
	for _, at := range []int{0, 1, -7, 5000} {
		s.Line = at
		checkText(t, []parse.Stmt{s}, line+"\n", api.OK)
	}
}

// unwritten: a statement that All does not answer, alone and among others.
func unwritten(t *testing.T, l ...parse.Stmt) {
	t.Helper()
	for _, s := range l {
		checkText(t, []parse.Stmt{s}, "", api.ErrSyntax)
		checkText(t, []parse.Stmt{nop(), s}, "", api.ErrSyntax)
		checkText(t, []parse.Stmt{s, nop()}, "", api.ErrSyntax)
	}
}

// textOf: of statements that All answers.
func textOf(t *testing.T, l []parse.Stmt) string {
	t.Helper()
	text, e := parse.Text(l)
	if e != api.OK {
		t.Fatalf("Text(%s): %d", short(l), e)
	}
	return text
}

// short: what fits into a line of it.
func short(x any) string {
	s := fmt.Sprintf("%+v", x)
	if len(s) > 600 {
		return s[:600] + ".."
	}
	return s
}
