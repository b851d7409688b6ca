package parse_test

import (
	"math"
	"slices"
	"strings"
	"testing"

	"gangway/api"
	"gangway/expr"
	"gangway/parse"
)

// TestP1NothingPanics: bytes and texts of all sorts; with an error nothing but the line is answered.
func TestP1NothingPanics(t *testing.T) {
	random := seeded(10)
	pieces := strings.Split(strings.Join(lines(), " "), " ")
	pieces = append(pieces, "\n", ";", "\n", ";", " ", "#", "?", "\x00", "\xff", "\"", "'", "(", ")", "$", "@", "012", long(256))
	for range 40000 {
		var b strings.Builder
		for range random.IntN(8) {
			b.WriteString(pick(random, pieces))
			if random.IntN(3) > 0 {
				b.WriteString(" ")
			}
		}
		checkModel(t, b.String())
	}
	for range 40000 {
		b := make([]byte, random.IntN(12))
		for k := range b {
			b[k] = byte(random.IntN(256))
			if random.IntN(2) == 0 {
				b[k] = "nopret.byt$%(),:@+-*1 \n;"[random.IntN(24)]
			}
		}
		checkModel(t, string(b))
	}
	for b := range 256 {
		for c := range 256 {
			checkModel(t, string([]byte{byte(b), byte(c)}))
		}
	}
}

// TestP1NothingPanicsOfText: each kind with fields of all sorts.
func TestP1NothingPanicsOfText(t *testing.T) {
	names := []string{"", "a", "\x00", "\xff", "a b", "a;b", long(256), long(70000)}
	numbers := []int{math.MinInt, -1, 0, 1, 7, 256, math.MaxInt}
	for kind := -2; kind <= 19; kind++ {
		for _, name := range names {
			for _, n := range numbers {
				for _, args := range [][]int{nil, {n}, {n, n}, {1, n, n, n}} {
					for _, values := range [][]expr.Value{nil, {{N: n}}, {{Plus: name, Minus: name, N: n}, {Plus: name, N: n}}} {
						for _, i := range []api.Inst{{}, {Op: n, Size: n, Cond: n, To: api.Operand{Kind: n, R: n, Base: n, Index: n, Scale: n, N: n, Name: name, Mod: n}, Short: true}} {
							l := []parse.Stmt{{Kind: kind, Line: n, Name: name, Text: name, Inst: i, Args: args, Values: values}, {Kind: kind, Name: name, Args: args, Values: values}}
							text, e := modelText(l)
							checkText(t, l, text, e)
							text, e = modelText(l[1:])
							checkText(t, l[1:], text, e)
						}
					}
				}
			}
		}
	}
}

// TestP1MuchEnds: the longest texts, and more; lists far beyond the limits.
func TestP1MuchEnds(t *testing.T) {
	for _, piece := range []string{"a:", "nop;", ".byte 1,", "1,", "(", "-", "~", "a+", ";", "movq ", "movq %rax, (%rax,%rbx,8);", "\"\",", ".set a,1;", "jmp short ", "%fs:", "x@tpoff+", ".loc 1 1;", "$", ",", "@"} {
		for _, ahead := range []string{"", ".byte ", "incq ", ".ascii ", "jmp ", ".set a, ", "movq $"} {
			text := ahead + strings.Repeat(piece, 65536/len(piece))
			text = text[:min(len(text), 65536)]
			l, line, e := parse.All(text)
			if e != api.OK && (len(l) > 0 || line != 1) || e == api.OK && line != 0 {
				t.Error(short(text), len(l), line, e)
			}
			checkAll(t, text+strings.Repeat(" ", 65537-len(text)), nil, 0, api.ErrSize)
		}
	}
	checkAll(t, strings.Repeat("nop\n", 1<<22), nil, 0, api.ErrSize)
	// Many sets, and many expressions of many names behind them.
	var b strings.Builder
	for k := range 2500 {
		b.WriteString(".set n" + string([]byte{byte('a' + k/625), byte('a' + k/25%25), byte('a' + k%25)}) + ",1;")
	}
	for b.Len() < 65500 {
		b.WriteString(".byte ndyy+ndyy+naaa+z-z+ndxx;")
	}
	if l := all(t, b.String()); l[len(l)-1].Values[0] != num(4) {
		t.Error(l[len(l)-1])
	}

	const many = 1 << 17
	checkText(t, slices.Repeat([]parse.Stmt{nop()}, many), "", api.ErrSize)
	checkText(t, make([]parse.Stmt, many), "", api.ErrSyntax)
	checkText(t, append(slices.Repeat([]parse.Stmt{label("a")}, many), parse.Stmt{}), "", api.ErrSyntax)
	unwritten(t, label(long(1<<24)), ascii(long(1<<24)), data(1, make([]expr.Value, 1<<20)...), of(parse.Align, "", make([]int, 1<<20)...), of(parse.Cfi, "offset", make([]int, 1<<20)...), of(parse.Label, "a", make([]int, 1<<20)...))
}

// TestP1ArgumentsStay: neither statements that are handed in nor the room behind their lists are changed, nor is that room read.
func TestP1ArgumentsStay(t *testing.T) {
	args := []int{8, 1, 2, 3, 4, 5}
	values := []expr.Value{num(1), val("a", "b", 2), num(3)}
	l := []parse.Stmt{{Kind: parse.Data, Args: args[:1], Values: values[:2]}, {Kind: parse.Align, Args: args[:2]}, {Kind: parse.Cfi, Name: "offset", Args: args[:2]}, {Kind: parse.Loc, Args: args[:3]}, {Kind: parse.Zero, Args: args[:1]}}
	checkText(t, l[:4], ".quad 1, a-b+2\n.balign 8, 1\n.cfi_offset 8, 1\n.loc 8 1 2\n", api.OK)
	checkText(t, l, "", api.ErrSyntax)
	checkText(t, l[:0], "", api.OK)
	if !slices.Equal(args, []int{8, 1, 2, 3, 4, 5}) || !slices.Equal(values, []expr.Value{num(1), val("a", "b", 2), num(3)}) || len(l) != 5 || l[4].Kind != parse.Zero || len(l[0].Args) != 1 {
		t.Error(args, values, l)
	}
}

// TestP1NewMemory: no two lists of an answer share anything, not even the room behind them, nor do those of two answers.
func TestP1NewMemory(t *testing.T) {
	text := strings.Join(lines(), "\n") + "\n.text; .section .x; .cfi_offset 1, 2; .quad 1, 2, 3; .set k9, 4; .size a, 5\n"
	first, second := all(t, text), all(t, text)
	spoil := func(l []parse.Stmt) {
		for at := range l {
			a, v := l[at].Args[:cap(l[at].Args)], l[at].Values[:cap(l[at].Values)]
			for k := range a {
				a[k] += 1000 + at
			}
			for k := range v {
				v[k].N += 1000 + at
			}
		}
	}
	spoil(second)
	for at := range second {
		for k := range second[at].Args {
			second[at].Args[k] -= 1000 + at
		}
		for k := range second[at].Values {
			second[at].Values[k].N -= 1000 + at
		}
	}
	if !slices.EqualFunc(first, second, sameStmt) {
		t.Error("lists share what they hold")
	}
	l := all(t, text)
	spoil(l)
	clear(l[:cap(l)])
	checkAll(t, text, first, 0, api.OK)
}

// TestP1TheSameAgain: what is answered hangs on nothing else, many times and side by side.
func TestP1TheSameAgain(t *testing.T) {
	random := seeded(11)
	var texts []string
	for range 200 {
		line := tokensOf(t, pick(random, lines())+"\n"+pick(random, lines()))
		texts = append(texts, printed(t, spoiled(random, line)))
	}
	done := make(chan bool)
	for range 8 {
		go func() {
			same := true
			for _, text := range texts {
				want, wantLine, wantE := modelAll(text)
				l, line, e := parse.All(text)
				same = same && slices.EqualFunc(l, want, sameStmt) && line == wantLine && e == wantE
				wantText, wantE := modelText(l)
				again, e := parse.Text(l)
				same = same && again == wantText && e == wantE && parse.Dwarf(4) == 7
			}
			done <- same
		}()
	}
	for range 8 {
		if !<-done {
			t.Error("not the same again")
		}
	}
}
