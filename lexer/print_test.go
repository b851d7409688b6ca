package lexer_test

import (
	"math"
	"slices"
	"strings"
	"testing"

	"gangway/api"
	"gangway/lexer"
)

func TestP1002Tokens(t *testing.T) {
	for text, l := range map[string][]lexer.Token{
		"":                  nil,
		"a\n":               list(name(0, "a")),
		"a b\n":             list(name(0, "a"), name(0, "b")),
		"%rax\n":            list(register(0, "rax")),
		"\"a b\\n\\x00\"\n": list(quoted(0, "a b\n\x00")),
		"\"\"\n":            list(quoted(0, "")),
		"0\n":               list(number(0, 0)),
		"18446744073709551615 9223372036854775808 9223372036854775807\n": list(number(0, -1), number(0, math.MinInt), number(0, math.MaxInt)),
		"foo : movq $ - 16 , %rax\n":                                     list(name(0, "foo"), sign(0, ":"), name(0, "movq"), sign(0, "$"), sign(0, "-"), number(0, 16), sign(0, ","), register(0, "rax"), end(0)),
		"\n":                                                             list(end(0)),
		"\n\n\n":                                                         list(end(0), end(0), end(0)),
		"a\nb\n":                                                         list(name(0, "a"), end(0), name(0, "b")),
		"a\n\n\nb c\n\n":                                                 list(name(0, "a"), end(0), end(0), end(0), name(0, "b"), name(0, "c"), end(0), end(0)),
		"\n1 << 2\n":                                                     list(end(0), number(0, 1), sign(0, "<<"), number(0, 2)),
	} {
		checkPrint(t, l, text, api.OK)
		checkPrint(t, atLines(l, 7), text, api.OK)
	}
	for _, s := range signs() {
		checkPrint(t, list(sign(1, s), sign(1, s)), s+" "+s+"\n", api.OK)
	}
}

// TestP1002LinesCountForNothing: whatever they are, tokens are parted by Ends alone.
func TestP1002LinesCountForNothing(t *testing.T) {
	lines := []int{math.MinInt, -1, 0, 1, 2, 4000, 4001, math.MaxInt}
	for _, a := range lines {
		for _, b := range lines {
			checkPrint(t, list(name(a, "a"), number(b, 1)), "a 1\n", api.OK)
			checkPrint(t, list(quoted(a, "a"), end(b), register(a, "b"), sign(b, "+"), end(a)), "\"a\"\n%b +\n", api.OK)
			checkPrint(t, list(end(a), end(b)), "\n\n", api.OK)
			checkPrint(t, list(name(a, "a"), name(b, "1")), "", api.ErrToken)
		}
	}
}

func TestP1002Numbers(t *testing.T) {
	for n, digits := range map[int]string{
		0: "0", 1: "1", 10: "10", 255: "255", math.MaxInt: "9223372036854775807", math.MaxInt - 1: "9223372036854775806",
		math.MinInt: "9223372036854775808", math.MinInt + 1: "9223372036854775809", -1: "18446744073709551615", -2: "18446744073709551614", -16: "18446744073709551600",
	} {
		checkPrint(t, list(number(1, n)), digits+"\n", api.OK)
	}
}

// wrong: tokens that All never answers.
func wrong() []lexer.Token {
	var l []lexer.Token
	for _, kind := range []int{math.MinInt, -6, -1, 0, 7, 8, 255, 256, 257, math.MaxInt} {
		for _, text := range []string{"", "a", "rax", "+", ";", "1", "\n"} {
			l = append(l, lexer.Token{Kind: kind, Text: text}, lexer.Token{Kind: kind, N: 1, Text: text})
		}
	}
	for _, n := range []int{1, -1, 5, math.MinInt, math.MaxInt} {
		for _, t := range list(name(1, "a"), quoted(1, "a"), quoted(1, ""), sign(1, "+"), register(1, "rax"), end(1)) {
			t.N = n
			l = append(l, t)
		}
	}
	for _, text := range []string{"a", "0", "1", " ", "\x00", "0x1", "'a'", "18446744073709551616"} {
		l = append(l, lexer.Token{Kind: lexer.Number, Text: text}, lexer.Token{Kind: lexer.Number, N: 1, Text: text})
	}
	for _, text := range []string{"a", ";", "\n", " ", "\x00", "#"} {
		l = append(l, lexer.Token{Kind: lexer.End, Text: text})
	}
	for _, text := range []string{
		"", "1", "0a", "1a", "a b", "a ", " a", "\ta", "a\t", "a\n", "\na", "a\nb", "a;", ";", "a#", "a#b", "#", "a,", "a:", "%a", "a%b", "\"a\"", "'a'", "a'", "a-b", "a$b", "$a", "?", "a?", "\xff", "a\xc3\xa4", "\x00", "a\x00", "a\r", "+",
		long(256), long(300), long(65536), long(65537), "." + long(255), strings.Repeat("a ", 100000),
	} {
		l = append(l, name(1, text))
	}
	for _, text := range []string{
		"", "1", "1a", "_", "_a", ".", "a_", "a.", "a.b", "a b", "a ", " a", "a\t", "a\n", "a;", "a#", "a%", "%a", "%", "a,", "\"a\"", "'a'", "?", "a?", "\x00", "a\x00", "\xff", "a\xff", long(65536), long(70000),
	} {
		l = append(l, register(1, text))
	}
	for _, text := range []string{
		"", "a", "1", "<", ">", "<<<", "<>", "><", "< <", ">>>", "<<>>", "++", "+-", "+ ", " +", "+\n", "+#", "+;", ";", "#", "%", "%a", "\"", "\"a\"", "'", "'a'", "\\", "!", "?", "[", ".", "_", " ", "\t", "\n", "\x00", "\xff", ",,", "a+", "+a", strings.Repeat("+", 70000),
	} {
		l = append(l, sign(1, text))
	}
	for _, text := range []string{long(65535), long(65536), long(70000), long(1 << 20), strings.Repeat("\n", 32768), strings.Repeat("\"", 32768), strings.Repeat("\x00", 32768), strings.Repeat("\x01", 16384), strings.Repeat("\x00", 100000), strings.Repeat("\x00", 32767) + "a"} {
		l = append(l, quoted(1, text))
	}
	return l
}

func TestP1002Refused(t *testing.T) {
	for _, w := range wrong() {
		checkPrint(t, list(w), "", api.ErrToken)
		checkPrint(t, list(name(1, "a"), w), "", api.ErrToken)
		checkPrint(t, list(w, name(1, "a")), "", api.ErrToken)
		checkPrint(t, list(name(1, "a"), end(1), number(2, 1), w, end(2), end(2)), "", api.ErrToken)
	}
}

// TestP1002OneByte: a token of each kind with each byte as its Text, alone and behind one that may be there.
func TestP1002OneByte(t *testing.T) {
	for kind := -1; kind <= 8; kind++ {
		for b := range 256 {
			for _, text := range []string{of(b), "a" + of(b), of(b) + "a", "<" + of(b), of(b) + of(b), of(b) + ">"} {
				l := list(lexer.Token{Kind: kind, Text: text})
				want, e := modelPrint(l)
				checkPrint(t, l, want, e)
			}
		}
	}
}

func TestP1002MaxName(t *testing.T) {
	checkPrint(t, list(name(1, long(255))), long(255)+"\n", api.OK)
	checkPrint(t, list(name(1, long(256))), "", api.ErrToken)
	checkPrint(t, list(register(1, long(256))), "%"+long(256)+"\n", api.OK)
}

// TestP1002MaxText: reached and passed, by a token, by a blank, by the line feed that comes behind the last token, by Ends.
func TestP1002MaxText(t *testing.T) {
	for _, c := range []struct {
		fits []lexer.Token
		more []lexer.Token
	}{
		{list(quoted(1, long(65533))), list(quoted(1, long(65534)))},
		{list(quoted(1, long(65533)), end(1)), list(quoted(1, long(65533)), end(1), end(1))},
		{list(register(1, long(65534))), list(register(1, long(65535)))},
		{list(register(1, long(65534)), end(1)), list(register(1, long(65535)), end(1))},
		{slices.Repeat(list(name(1, "a")), 32768), slices.Repeat(list(name(1, "a")), 32769)},
		{slices.Repeat(list(name(1, "a"), end(1)), 32768), append(slices.Repeat(list(name(1, "a"), end(1)), 32768), end(1))},
		{slices.Repeat(list(end(1)), 65536), slices.Repeat(list(end(1)), 65537)},
		{list(register(1, long(65532)), name(1, "a")), list(register(1, long(65533)), name(1, "a"))},
		{list(register(1, long(65531)), number(1, 10), end(1)), list(register(1, long(65531)), number(1, 100), end(1))},
		{list(quoted(1, strings.Repeat("\x00", 16383)+"a")), list(quoted(1, strings.Repeat("\x00", 16383)+"aa"))},
		{list(quoted(1, strings.Repeat("\x01", 16383)+"a")), list(quoted(1, strings.Repeat("\x01", 16383)+"aa"))},
		{list(quoted(1, strings.Repeat("\"", 32766)+"a")), list(quoted(1, strings.Repeat("\"", 32767)))},
	} {
		if text := printed(t, c.fits); len(text) != 65536 {
			t.Errorf("%d bytes", len(text))
		}
		checkPrint(t, c.more, "", api.ErrSize)
	}
	checkPrint(t, list(quoted(1, strings.Repeat("\x00", 32767))), "", api.ErrSize)
	checkPrint(t, slices.Repeat(list(name(1, "a")), 1<<20), "", api.ErrSize)
}

// TestP1002OnlyWhatComesOut: the longest tokens that All answers are those that Print takes for tokens, though they may be too long for it.
func TestP1002OnlyWhatComesOut(t *testing.T) {
	for _, c := range []struct {
		written string
		token   lexer.Token
	}{
		{"\"" + long(65534) + "\"", quoted(1, long(65534))},
		{"\"" + strings.Repeat("\\0", 32767) + "\"", quoted(1, strings.Repeat("\x00", 32767))},
		{"\"" + strings.Repeat("\\n", 32767) + "\"", quoted(1, strings.Repeat("\n", 32767))},
		{"\"" + strings.Repeat("\\0", 32766) + "aa\"", quoted(1, strings.Repeat("\x00", 32766)+"aa")},
		{"\"" + strings.Repeat("\\xff", 16383) + "aa\"", quoted(1, strings.Repeat("\xff", 16383)+"aa")},
		{"%" + long(65535), register(1, long(65535))},
	} {
		cut(t, c.written, c.token, end(1))
		checkPrint(t, list(c.token), "", api.ErrSize)
		c.token.Text += "a"
		checkPrint(t, list(c.token), "", api.ErrToken)
	}
}

// TestP1002ErrorsInOrder: a token that may not be is told ahead of too much, wherever it stands.
func TestP1002ErrorsInOrder(t *testing.T) {
	many := slices.Repeat(list(name(1, "a")), 40000)
	checkPrint(t, many, "", api.ErrSize)
	for _, w := range wrong() {
		checkPrint(t, append(slices.Clip(many), w), "", api.ErrToken)
		checkPrint(t, append(list(w), many...), "", api.ErrToken)
	}
	checkPrint(t, list(quoted(1, long(65534)), name(1, "1")), "", api.ErrToken)
	checkPrint(t, append(slices.Repeat(list(end(1)), 65537), lexer.Token{Kind: lexer.End, N: 1}), "", api.ErrToken)
}

// sample: tokens of each kind, and some that may not be.
func sample() []lexer.Token {
	return list(name(1, "a"), name(2, ".x_9"), number(3, 0), number(4, -1), quoted(5, ""), quoted(6, "a\n\" #\x00\xff"), sign(7, "+"), sign(8, "<<"), register(9, "rax"), end(10))
}

// eachList: of up to so many of the sample, and those more.
func eachList(most int, f func(l []lexer.Token), more ...lexer.Token) {
	all := append(sample(), more...)
	var grow func(l []lexer.Token)
	grow = func(l []lexer.Token) {
		f(l)
		if len(l) < most {
			for _, t := range all {
				grow(append(slices.Clip(l), t))
			}
		}
	}
	grow(nil)
}

func TestP1002Model(t *testing.T) {
	eachList(4, func(l []lexer.Token) {
		want, e := modelPrint(l)
		checkPrint(t, l, want, e)
	}, lexer.Token{}, lexer.Token{Kind: lexer.End, N: 1})
}

func TestP1003Known(t *testing.T) {
	for s, want := range map[string]string{
		"":              `""`,
		"a":             `"a"`,
		"a\"\\\n\x01":   `"a\"\\\n\x01"`,
		" ~":            `" ~"`,
		"\x1f\x7f\x80":  `"\x1f\x7f\x80"`,
		"\x00":          `"\x00"`,
		"\x000":         `"\x000"`,
		"\t\r\n":        `"\t\x0d\n"`,
		"\xff\xab":      `"\xff\xab"`,
		"\u00e4":        `"\xc3\xa4"`,
		"'#;%":          `"'#;%"`,
		"\\n":           `"\\n"`,
		"\\\\":          `"\\\\"`,
		"\"\"":          `"\"\""`,
		"\a\b\v\f\x1b?": `"\x07\x08\x0b\x0c\x1b?"`,
	} {
		if got := lexer.Quote(s); got != want {
			t.Errorf("Quote(%q): %s; want %s", s, got, want)
		}
	}
}

// TestP1003Bytes: each one, alone and beside each other one.
func TestP1003Bytes(t *testing.T) {
	for a := range 256 {
		for b := range 256 {
			for _, s := range []string{of(a), of(a) + of(b), "a" + of(a) + of(b) + "0"} {
				if got := lexer.Quote(s); got != modelQuote(s) {
					t.Fatalf("Quote(%q): %s; want %s", s, got, modelQuote(s))
				}
			}
		}
	}
}

// TestP1003Long: no text is too long for it.
func TestP1003Long(t *testing.T) {
	for _, n := range []int{255, 256, 16384, 65536, 65537, 1 << 22} {
		if got := lexer.Quote(strings.Repeat("a\"\n\x00", n)); got != `"`+strings.Repeat(`a\"\n\x00`, n)+`"` {
			t.Errorf("%d times: %d bytes", n, len(got))
		}
	}
}
