package lexer_test

import (
	"fmt"
	"slices"
	"strings"
	"testing"

	"gangway/api"
	"gangway/lexer"
)

func name(line int, text string) lexer.Token {
	return lexer.Token{Kind: lexer.Name, Line: line, Text: text}
}

func number(line, n int) lexer.Token {
	return lexer.Token{Kind: lexer.Number, Line: line, N: n}
}

func quoted(line int, text string) lexer.Token {
	return lexer.Token{Kind: lexer.Text, Line: line, Text: text}
}

func sign(line int, text string) lexer.Token {
	return lexer.Token{Kind: lexer.Sign, Line: line, Text: text}
}

func register(line int, text string) lexer.Token {
	return lexer.Token{Kind: lexer.Register, Line: line, Text: text}
}

func end(line int) lexer.Token { return lexer.Token{Kind: lexer.End, Line: line} }

func list(l ...lexer.Token) []lexer.Token { return l }

// long: a name of so many bytes.
func long(n int) string { return strings.Repeat("n", n) }

// signs: all that there are.
func signs() []string {
	return []string{",", "(", ")", ":", "$", "+", "-", "*", "/", "&", "~", "@", "=", "|", "^", "<<", ">>"}
}

// of: a text of one byte.
func of(b int) string { return string([]byte{byte(b)}) }

// checkAll: these tokens, or none, and the line and the error.
func checkAll(t *testing.T, text string, l []lexer.Token, line int, e api.Errno) {
	t.Helper()
	got, gotLine, gotE := lexer.All(text)
	if !slices.Equal(got, l) || gotLine != line || gotE != e {
		t.Fatalf("All(%s), %d bytes: %s, %d, %d; want %s, %d, %d", short(text), len(text), short(got), gotLine, gotE, short(l), line, e)
	}
}

// cut: these tokens and OK.
func cut(t *testing.T, text string, l ...lexer.Token) {
	t.Helper()
	checkAll(t, text, l, 0, api.OK)
}

// refused: that line has something that is no token.
func refused(t *testing.T, text string, line int) {
	t.Helper()
	checkAll(t, text, nil, line, api.ErrToken)
}

func tooMuch(t *testing.T, text string) {
	t.Helper()
	checkAll(t, text, nil, 0, api.ErrSize)
}

// all: the tokens of a text that has no others.
func all(t *testing.T, text string) []lexer.Token {
	t.Helper()
	l, line, e := lexer.All(text)
	if line != 0 || e != api.OK {
		t.Fatalf("All(%s): %d, %d", short(text), line, e)
	}
	return l
}

func checkPrint(t *testing.T, l []lexer.Token, text string, e api.Errno) {
	t.Helper()
	if got, gotE := lexer.Print(l); got != text || gotE != e {
		t.Fatalf("Print(%s), %d tokens: %s, %d bytes, %d; want %s, %d bytes, %d", short(l), len(l), short(got), len(got), gotE, short(text), len(text), e)
	}
}

// printed: the text of tokens that may be.
func printed(t *testing.T, l []lexer.Token) string {
	t.Helper()
	text, e := lexer.Print(l)
	if e != api.OK {
		t.Fatalf("Print(%s): %d", short(l), e)
	}
	return text
}

// atLines: the same tokens, their lines later by so many.
func atLines(l []lexer.Token, later int) []lexer.Token {
	moved := slices.Clone(l)
	for k := range moved {
		moved[k].Line += later
	}
	return moved
}

// noLines: the same tokens, of no line.
func noLines(l []lexer.Token) []lexer.Token {
	moved := slices.Clone(l)
	for k := range moved {
		moved[k].Line = 0
	}
	return moved
}

// eachText: of up to so many of the parts, one behind the other.
func eachText(parts []string, most int, f func(text string)) {
	var grow func(text string, left int)
	grow = func(text string, left int) {
		f(text)
		if left > 0 {
			for _, p := range parts {
				grow(text+p, left-1)
			}
		}
	}
	grow("", most)
}

// short: what fits into a line of it.
func short(x any) string {
	s := fmt.Sprintf("%#v", x)
	if len(s) > 400 {
		return s[:400] + ".."
	}
	return s
}
