package lexer_test

import (
	"slices"
	"strings"
	"testing"

	"gangway/api"
	"gangway/lexer"
)

// cleaned: the tokens that P10.4 leaves of these: Ends with nothing ahead of them on their line are gone, and one comes behind the last line.
func cleaned(l []lexer.Token) []lexer.Token {
	var left []lexer.Token
	open := false
	for _, t := range noLines(l) {
		if t.Kind != lexer.End || open {
			left = append(left, t)
		}
		open = t.Kind != lexer.End
	}
	if open {
		left = append(left, end(0))
	}
	return left
}

// checkBack: of tokens that may be, few enough.
func checkBack(t *testing.T, l []lexer.Token) {
	t.Helper()
	if got := all(t, printed(t, l)); !slices.Equal(noLines(got), cleaned(l)) {
		t.Fatalf("%s: back as %s", short(l), short(got))
	}
}

func TestP1004Back(t *testing.T) {
	eachList(4, func(l []lexer.Token) { checkBack(t, l) })
	for _, a := range signs() {
		for _, b := range signs() {
			checkBack(t, list(sign(0, a), sign(0, b), sign(0, a)))
		}
	}
	for b := range 256 {
		checkBack(t, list(quoted(0, of(b)), number(0, b), number(0, -b), quoted(0, of(b)+of(255-b))))
	}
	checkBack(t, slices.Repeat(list(name(0, long(255)), register(0, long(255)), end(0), end(0)), 100))
	checkBack(t, slices.Repeat(list(name(0, "a"), end(0)), api.MaxLines))
	checkBack(t, list(register(0, long(65534))))
	checkBack(t, list(quoted(0, strings.Repeat("\x00", 16383))))
}

// TestP1004OfTexts: what All answers is printed, and cut as it was; printed once more, it is the same text.
func TestP1004OfTexts(t *testing.T) {
	eachText(parts(), 4, func(text string) {
		l, _, e := lexer.All(text)
		if e != api.OK {
			return
		}
		checkBack(t, l)
		once := printed(t, cleaned(l))
		checkPrint(t, all(t, once), once, api.OK)
	})
}

// parts: of texts, and of such as have something that is no token.
func parts() []string {
	return []string{"a", "%r1", "12", "0x1F", "'b'", "\"c d\\n\"", "<<", ",", ";", "# e", "\n", " ", "\t", "\"", "?"}
}

func TestP1005LineByLine(t *testing.T) {
	var texts []string
	eachText(parts(), 2, func(text string) { texts = append(texts, text) })
	texts = append(texts, "\n\n\n", "a\n\n;\n", "a # b\n\n", " # b\n;", "a; b\nc\n?", "a\n\"", strings.Repeat("a\n", 100))
	for _, first := range texts {
		if !strings.HasSuffix(first, "\n") {
			first += "\n"
		}
		for _, second := range texts {
			want, line, e := lexer.All(first)
			l, secondLine, secondE := lexer.All(second)
			later := strings.Count(first, "\n")
			want = append(want, atLines(l, later)...)
			switch {
			case e != api.OK:
				want = nil
			case secondE != api.OK:
				want, line, e = nil, secondLine+later, secondE
			}
			checkAll(t, first+second, want, line, e)
		}
	}
}

func TestP1006NoBlanks(t *testing.T) {
	eachText(append(parts(), "_", ".", "\\n", "'", "x"), 4, func(text string) {
		l, _, _ := lexer.All(text)
		for _, token := range l {
			if token.Kind != lexer.Text && strings.ContainsAny(token.Text, " \t\n") {
				t.Fatalf("%q: %q", text, token.Text)
			}
		}
	})
}

// TestP1006BlanksAndRemarks: between tokens, ahead of them and behind them; remarks behind a line's tokens, and on lines of their own.
func TestP1006BlanksAndRemarks(t *testing.T) {
	blanks := []string{" ", "\t", "  ", " \t", strings.Repeat("\t ", 20)}
	remarks := []string{"#", "# x", "#x # y", "#;", "#\"", "# ' \xff \x00 \r ? 012"}
	eachList(3, func(l []lexer.Token) {
		var written []string
		for _, token := range l {
			if token.Kind == lexer.End {
				written = append(written, ";")
			} else {
				written = append(written, strings.TrimSuffix(printed(t, list(token)), "\n"))
			}
		}
		want := all(t, strings.Join(written, " "))
		for _, b := range blanks {
			text := strings.Join(written, b)
			cut(t, text, want...)
			cut(t, b+text+b, want...)
			cut(t, text+b+"\n"+b+"\n"+b, want...)
			for _, r := range remarks {
				cut(t, text+r, want...)
				cut(t, b+text+b+r+"\n", want...)
				cut(t, r+"\n"+text+r+"\n"+b+r, atLines(want, 1)...)
			}
		}
	})
}

// TestP1006WhereNoneCouldStand: a blank within a token parts it, or breaks it, and so does a remark.
func TestP1006WhereNoneCouldStand(t *testing.T) {
	cut(t, "a b", name(1, "a"), name(1, "b"), end(1))
	cut(t, "1 2", number(1, 1), number(1, 2), end(1))
	cut(t, "%a b", register(1, "a"), name(1, "b"), end(1))
	cut(t, "a#b", name(1, "a"), end(1))
	cut(t, "\"a # b\"", quoted(1, "a # b"), end(1))
	cut(t, "\"a  b\"", quoted(1, "a  b"), end(1))
	for _, text := range []string{"% a", "< <", "' a'", "'a '", "0x 1", "\"\\x4 1\"", "\"\\ n\"", "%# a", "<# <", "0x# 1", "'# a'", "\"a\t\""} {
		refused(t, text, 1)
	}
}

func TestP1007QuotedAndBack(t *testing.T) {
	check := func(s string) {
		t.Helper()
		cut(t, lexer.Quote(s), quoted(1, s), end(1))
	}
	check("")
	for a := range 256 {
		check(of(a))
		for b := range 256 {
			check(of(a) + of(b))
		}
		for _, n := range []int{3, 255, 256, 4000, 15999, 16000} {
			check(strings.Repeat(of(a), n))
		}
		check(strings.Repeat(of(a)+"\\x41\"", 3200))
	}
	eachText([]string{"\\", "\"", "n", "x", "0", "\n", "\x00", "#", ";", " ", "\xff"}, 5, check)
}
