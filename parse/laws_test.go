package parse_test

import (
	"slices"
	"strings"
	"testing"

	"gangway/api"
	"gangway/lexer"
	"gangway/parse"
)

// inLines: the same statements, one on each line.
func inLines(l []parse.Stmt) []parse.Stmt {
	moved := slices.Clone(l)
	for k := range moved {
		moved[k].Line = k + 1
	}
	return moved
}

// withoutSets: those that set no name.
func withoutSets(l []parse.Stmt) []parse.Stmt {
	return slices.DeleteFunc(slices.Clone(l), func(s parse.Stmt) bool { return s.Kind == parse.Set })
}

func checkBack(t *testing.T, l []parse.Stmt) {
	t.Helper()
	text := textOf(t, l)
	checkAll(t, text, inLines(l), 0, api.OK)
	checkText(t, all(t, text), text, api.OK)
}

// TestP1204Back: statements that All answered, though of what was set then, whatever their lines are.
func TestP1204Back(t *testing.T) {
	checkBack(t, nil)
	checkBack(t, withoutSets(everyKind(t)))
	checkBack(t, slices.Repeat([]parse.Stmt{nop()}, 4000))
	checkBack(t, []parse.Stmt{ascii(long(65526))})
	checkBack(t, withoutSets(all(t, ".set k, 5; .set s, a - b + 3\n.quad k, s, -s, k * k; movq $k, %rax; .zero k, k; .loc k k\nmovq x+k(%rip), %rax; .cfi_offset k, k")))
	checkBack(t, withoutSets(all(t, strings.Join(lines(), "\n"))))
	for at, line := range lines() {
		checkBack(t, withoutSets(all(t, ".set v5, 1; "+line+"; "+lines()[len(lines())-1-at])))
	}
	l := instructions()
	for part := range slices.Chunk(l, 1000) {
		checkBack(t, part)
	}
}

// TestP1204BackOfSpoiled: of each text that is still one of statements.
func TestP1204BackOfSpoiled(t *testing.T) {
	random := seeded(4)
	some := 0
	for range 20000 {
		line := tokensOf(t, pick(random, lines())+"\n"+pick(random, lines()))
		l, _, e := parse.All(printed(t, spoiled(random, line)))
		if e == api.OK && len(l) > 0 {
			some++
			checkBack(t, withoutSets(l))
		}
	}
	if some < 1000 {
		t.Error("few of them:", some)
	}
}

// TestP1205LineByLine: each line alone, behind the lines that set a name ahead of it, has the statements that it has in the whole.
func TestP1205LineByLine(t *testing.T) {
	random := seeded(5)
	texts := append(lines(), ".quad k + 1, s", "movq $k, %rax", ".set j, k + 1", ".zero j", "movq s(%rip), %rax", "", "# x", "nop; a:; b: ret", "foo", ".byte 1 +", "movb $256, %al", ".set k, 6")
	ends := map[api.Errno]int{}
	for range 5000 {
		var whole, sets []string
		var want []parse.Stmt
		line, e := 0, api.OK
		for at := range 1 + random.IntN(8) {
			text := pick(random, texts)
			whole = append(whole, text)
			if e != api.OK {
				continue
			}
			var l []parse.Stmt
			l, _, e = parse.All(strings.Join(append(slices.Clone(sets), text), ";"))
			if e != api.OK {
				want, line = nil, at+1
				continue
			}
			want = append(want, atLine(at+1, l[len(sets):]...)...)
			if strings.HasPrefix(text, ".set") {
				sets = append(sets, text)
			}
		}
		checkAll(t, strings.Join(whole, "\n"), want, line, e)
		ends[e]++
	}
	if ends[api.OK] < 500 || ends[api.ErrSyntax] < 500 {
		t.Error("the texts are too much alike", ends)
	}
}

// TestP1205TwoTexts: without sets the statements of one behind the other are those of both.
func TestP1205TwoTexts(t *testing.T) {
	for _, first := range lines() {
		for _, second := range lines() {
			if strings.HasPrefix(first, ".set") {
				continue
			}
			checkAll(t, first+"\n\n"+second, append(all(t, first), atLine(3, all(t, second)...)...), 0, api.OK)
		}
	}
}

// unlined: the same statements, of no line.
func unlined(l []parse.Stmt) []parse.Stmt { return atLine(0, l...) }

// rewritten: a text's tokens, with blanks between and another End.
func rewritten(t *testing.T, text, blanks, end string) string {
	t.Helper()
	var b strings.Builder
	for _, token := range tokensOf(t, text) {
		if token.Kind == lexer.End {
			b.WriteString(end)
		} else {
			b.WriteString(blanks + strings.TrimSuffix(printed(t, []lexer.Token{token}), "\n") + blanks)
		}
	}
	return b.String()
}

func TestP1206Blanks(t *testing.T) {
	texts := append(lines(), "foo", "a: foo", ".byte 1 +", "movb $256, %al", "movq %eax, %rbx", "nop; a: b: ret; .set k, 1; .zero k; .quad k", strings.Join(lines(), "; "), ".set k, 1; .set k, 2", ":", "jmp short", "jmp short\nshort")
	for _, text := range texts {
		l, _, e := parse.All(text)
		for _, blanks := range []string{" ", "\t", "  \t "} {
			for _, end := range []string{"\n", ";", " # x ; foo\n", ";;", "\n# x\n\n \t\n", "#\n;\n"} {
				got, line, gotE := parse.All(rewritten(t, text, blanks, end))
				if !slices.EqualFunc(unlined(got), unlined(l), sameStmt) || gotE != e || line != 0 && e == api.OK {
					t.Fatalf("%q with %q and %q: %s, %d", text, blanks, end, short(got), gotE)
				}
			}
		}
	}
	// No blanks, where tokens are parted without them.
	is(t, "f:movq$5,%rax;incq(%rax);jmp*8(%rbx)", label("f"), inst(api.Mov, 8, reg(0), imm(5)), inst(api.Inc, 8, base(0, 0), none()), jmp(false, base(3, 8)))
	is(t, ".byte(1),2;.file(1)\"a\"", data(1, num(1), num(2)), file(1, "a"))
}
