package lexer_test

import (
	"math"
	"math/rand/v2"
	"slices"
	"strings"
	"testing"

	"gangway/api"
	"gangway/lexer"
)

// wildTexts: of all kinds of bytes, each time the same.
func wildTexts(n int) []string {
	random := rand.New(rand.NewPCG(10, 30))
	likely := "aZ_.09x%'\"\\nt0<>+,;# \t\n\n"
	var l []string
	for range n {
		b := make([]byte, random.IntN(40))
		for k := range b {
			b[k] = byte(random.IntN(256))
			if random.IntN(8) > 0 {
				b[k] = likely[random.IntN(len(likely))]
			}
		}
		l = append(l, string(b))
	}
	return l
}

// TestP1NothingPanics: texts and tokens of all sorts; with an error nothing else is answered.
func TestP1NothingPanics(t *testing.T) {
	texts := append(wildTexts(20000), "", "\x00", "\xff", long(255), long(256), long(65536), long(70000), strings.Repeat("\n", 70000), strings.Repeat("\"", 65536), strings.Repeat("'", 65535), strings.Repeat("\\", 65536), strings.Repeat("%", 65536))
	for _, text := range texts {
		want, line, e := modelAll(text)
		checkAll(t, text, want, line, e)
		lexer.Quote(text)
	}
	for _, n := range []int{math.MinInt, -7, -1, 0, 1, 7, 255, 1 << 32, math.MaxInt} {
		for kind := -2; kind <= 9; kind++ {
			for _, text := range append(texts[:200:200], texts[20000:]...) {
				for _, token := range []lexer.Token{{Kind: kind, Line: n, N: n, Text: text}, {Kind: kind, Line: n, Text: text}, {Kind: n, Line: kind, Text: text}, {Kind: kind, N: n}} {
					s, e := lexer.Print(list(token))
					if e != api.OK && s != "" || e == api.OK && s == "" {
						t.Fatalf("%s: %q, %d", short(token), s, e)
					}
				}
			}
		}
	}
}

// TestP1MuchEnds: texts and lists far beyond the limits.
func TestP1MuchEnds(t *testing.T) {
	const many = 1 << 22
	for _, b := range []string{"a", "\n", "0", "\"", " ", "#", "'", "?"} {
		tooMuch(t, strings.Repeat(b, many))
	}
	checkPrint(t, make([]lexer.Token, many), "", api.ErrToken)
	checkPrint(t, slices.Repeat(list(end(1)), many), "", api.ErrSize)
	checkPrint(t, list(name(1, strings.Repeat("a", 1<<26))), "", api.ErrToken)
}

// TestP1NilAndEmpty: they mean the same.
func TestP1NilAndEmpty(t *testing.T) {
	checkPrint(t, nil, "", api.OK)
	checkPrint(t, []lexer.Token{}, "", api.OK)
	if l, line, e := lexer.All(""); len(l) != 0 || line != 0 || e != api.OK {
		t.Error(l, line, e)
	}
}

// TestP1AnswersAreNew: what is done with an answer, and the room behind it, is to be seen in no other one.
func TestP1AnswersAreNew(t *testing.T) {
	const text = "a: movq $1, %rax; .ascii \"x\"\n\nb"
	first, want := all(t, text), all(t, text)
	want = slices.Clone(want)
	for k := range first[:cap(first)] {
		first[:cap(first)][k] = lexer.Token{Kind: 9, Line: 9, N: 9, Text: "z"}
	}
	if got := all(t, text); !slices.Equal(got, want) {
		t.Error(got)
	}
	printedOnce := printed(t, want)
	for k := range want {
		want[k].Text = "z"
	}
	if printedOnce != "a : movq $ 1 , %rax\n.ascii \"x\"\nb\n" {
		t.Errorf("%q", printedOnce)
	}
}

// TestP1ArgumentsStay: neither tokens that are handed in nor the room behind them are changed, nor is that room read.
func TestP1ArgumentsStay(t *testing.T) {
	whole := append(sample(), lexer.Token{Kind: -1}, name(1, "1"))
	before := slices.Clone(whole)
	want, _ := modelPrint(before[:len(sample())])
	checkPrint(t, whole[:len(sample())], want, api.OK)
	checkPrint(t, whole, "", api.ErrToken)
	checkPrint(t, whole[:0], "", api.OK)
	if !slices.Equal(whole, before) {
		t.Error(whole)
	}
}

// TestP1TheSameAgain: what is answered hangs on nothing else, many times and side by side.
func TestP1TheSameAgain(t *testing.T) {
	texts := wildTexts(300)
	done := make(chan bool)
	for range 8 {
		go func() {
			same := true
			for _, text := range texts {
				want, wantLine, wantE := modelAll(text)
				l, line, e := lexer.All(text)
				same = same && slices.Equal(l, want) && line == wantLine && e == wantE
				s, e := lexer.Print(l)
				wantS, wantE := modelPrint(want)
				same = same && s == wantS && e == wantE && lexer.Quote(text) == modelQuote(text)
			}
			done <- same
		}()
	}
	for range 8 {
		if !<-done {
			t.Error("not the same again")
		}
	}
}
