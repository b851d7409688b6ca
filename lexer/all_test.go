package lexer_test

import (
	"fmt"
	"math"
	"strings"
	"testing"

	"gangway/api"
	"gangway/lexer"
)

func TestP1001Examples(t *testing.T) {
	cut(t, "foo: movq $-0x10, %rax # x", name(1, "foo"), sign(1, ":"), name(1, "movq"), sign(1, "$"), sign(1, "-"), number(1, 16), sign(1, ","), register(1, "rax"), end(1))
	cut(t, "'a' 18446744073709551615", number(1, 97), number(1, -1), end(1))
	cut(t, ".ascii \"a\\n\"; nop", name(1, ".ascii"), quoted(1, "a\n"), end(1), name(1, "nop"), end(1))
	for _, text := range []string{"18446744073709551616", "0x", "012", "1a", "\"a", "?"} {
		refused(t, text, 1)
	}
	cut(t, " ")
	cut(t, " \t \n\t\n   ")
}

// TestP1001Kinds: their numbers, which other layers and programs may have written out.
func TestP1001Kinds(t *testing.T) {
	got := [...]int{lexer.Name, lexer.Number, lexer.Text, lexer.Sign, lexer.Register, lexer.End}
	if got != [...]int{1, 2, 3, 4, 5, 6} {
		t.Error(got)
	}
}

// TestP1001Lines: where Ends come, and where none do.
func TestP1001Lines(t *testing.T) {
	for _, text := range []string{"", "\n", "\n\n\n", " \t ", "\t\n ", "#", "# a", "#\n", "# a; b \"\n", " \t# ? \xff\x00\r\"\n\n# x", "##", "#;"} {
		cut(t, text)
	}
	for _, last := range []string{"", "\n", "\n\n", "\n # x\n", "\n\t"} {
		cut(t, "a"+last, name(1, "a"), end(1))
		cut(t, " a # b"+last, name(1, "a"), end(1))
		cut(t, ";"+last, end(1), end(1))
		cut(t, " ; # x"+last, end(1), end(1))
		cut(t, ";;"+last, end(1), end(1), end(1))
		cut(t, "a;"+last, name(1, "a"), end(1), end(1))
		cut(t, "a;b"+last, name(1, "a"), end(1), name(1, "b"), end(1))
		cut(t, ";a"+last, end(1), name(1, "a"), end(1))
		cut(t, "a ; ; b;#;"+last, name(1, "a"), end(1), end(1), name(1, "b"), end(1), end(1))
		cut(t, "\n\na\n;\n\n b"+last, name(3, "a"), end(3), end(4), end(4), name(6, "b"), end(6))
	}
	cut(t, "a\n\n# x\nb\n", name(1, "a"), end(1), name(4, "b"), end(4))
}

// TestP1001Blanks: two of them are blanks, and no other byte is.
func TestP1001Blanks(t *testing.T) {
	for b := range 256 {
		text := "a" + of(b) + "b"
		switch {
		case b == ' ' || b == '\t':
			cut(t, text, name(1, "a"), name(1, "b"), end(1))
		case b == '\n':
			cut(t, text, name(1, "a"), end(1), name(2, "b"), end(2))
		case b == ';':
			cut(t, text, name(1, "a"), end(1), name(1, "b"), end(1))
		case b == '#':
			cut(t, text, name(1, "a"), end(1))
		case b == '%':
			cut(t, text, name(1, "a"), register(1, "b"), end(1))
		case strings.Contains(",():$+-*/&~@=|^", of(b)):
			cut(t, text, name(1, "a"), sign(1, of(b)), name(1, "b"), end(1))
		case b == '_' || b == '.' || b >= '0' && b <= '9' || b >= 'A' && b <= 'Z' || b >= 'a' && b <= 'z':
			cut(t, text, name(1, text), end(1))
		default:
			refused(t, text, 1)
		}
	}
}

// TestP1001OneByte: each byte alone.
func TestP1001OneByte(t *testing.T) {
	for b := range 256 {
		want, line, e := modelAll(of(b))
		checkAll(t, of(b), want, line, e)
		checkAll(t, " "+of(b)+" ", want, line, e)
		switch {
		case b == '_' || b == '.' || b >= 'A' && b <= 'Z' || b >= 'a' && b <= 'z':
			cut(t, of(b), name(1, of(b)), end(1))
		case b >= '0' && b <= '9':
			cut(t, of(b), number(1, b-'0'), end(1))
		}
	}
}

func TestP1001Names(t *testing.T) {
	for _, text := range []string{"a", "Z", "_", ".", "..", "._", "_.a0", ".L1", "a.b.c", "x0", "x_9.", "A9z_.", "__", ".0", "_0"} {
		cut(t, text, name(1, text), end(1))
		cut(t, text+":"+text, name(1, text), sign(1, ":"), name(1, text), end(1))
	}
	cut(t, "a\"b\"'c'", name(1, "a"), quoted(1, "b"), number(1, 'c'), end(1))
	cut(t, "a%b$c", name(1, "a"), register(1, "b"), sign(1, "$"), name(1, "c"), end(1))
	refused(t, "a?", 1)
	refused(t, "\xc3\xa4", 1)
	refused(t, "a\xc3\xa4", 1)
}

func TestP1001MaxName(t *testing.T) {
	for _, first := range []string{"n", "_", "."} {
		text := first + long(254)
		cut(t, text, name(1, text), end(1))
		cut(t, " "+text+","+text, name(1, text), sign(1, ","), name(1, text), end(1))
		refused(t, text+"n", 1)
		refused(t, text+"0", 1)
		refused(t, text+".", 1)
		refused(t, text+"_", 1)
		cut(t, text+" n", name(1, text), name(1, "n"), end(1))
		refused(t, "a\n"+text+text+text, 2)
	}
	// The limit is one of names alone.
	cut(t, "%"+long(255), register(1, long(255)), end(1))
	cut(t, "%"+long(256), register(1, long(256)), end(1))
	cut(t, "\""+long(256)+"\"", quoted(1, long(256)), end(1))
	cut(t, "# "+long(300))
}

func TestP1001Registers(t *testing.T) {
	for _, text := range []string{"rax", "r15", "a", "Z", "R9d", "z0a1", "eax"} {
		cut(t, "%"+text, register(1, text), end(1))
		cut(t, "(%"+text+")", sign(1, "("), register(1, text), sign(1, ")"), end(1))
	}
	cut(t, "%a_", register(1, "a"), name(1, "_"), end(1))
	cut(t, "%a.b", register(1, "a"), name(1, ".b"), end(1))
	cut(t, "%a%b", register(1, "a"), register(1, "b"), end(1))
	cut(t, "%fs:0", register(1, "fs"), sign(1, ":"), number(1, 0), end(1))
	for _, text := range []string{"%", "% ", "% a", "%\n", "%#", "%1", "%0a", "%_", "%_a", "%.", "%.a", "%%", "%%a", "%$", "%\"a\"", "%'a'", "%;", "%\xff", "%\x00", "a %", "%rax, %"} {
		refused(t, text, 1)
	}
	for b := range 256 {
		if isLetter := b >= 'A' && b <= 'Z' || b >= 'a' && b <= 'z'; isLetter {
			cut(t, "%"+of(b), register(1, of(b)), end(1))
		} else {
			refused(t, "%"+of(b), 1)
		}
	}
}

func TestP1001Numbers(t *testing.T) {
	for text, n := range map[string]int{
		"0": 0, "1": 1, "9": 9, "10": 10, "100": 100, "907": 907, "1234567890": 1234567890,
		"9223372036854775806": math.MaxInt - 1, "9223372036854775807": math.MaxInt,
		"9223372036854775808": math.MinInt, "9223372036854775809": math.MinInt + 1,
		"18446744073709551614": -2, "18446744073709551615": -1, "9999999999999999999": -8446744073709551617,
		"0x0": 0, "0x00": 0, "0x1": 1, "0x01": 1, "0xf": 15, "0xF": 15, "0xabcdef": 0xabcdef, "0xABCDEF": 0xabcdef, "0x0123456789": 0x123456789,
		"0x0000000000000000": 0, "0x0000000000000001": 1, "0x000000000000000f": 15,
		"0x7fffffffffffffff": math.MaxInt, "0x8000000000000000": math.MinInt, "0xFFFFFFFFFFFFFFFF": -1, "0xfffffffffffffffe": -2,
		"0xfffffffffffffff": 1<<60 - 1,
	} {
		cut(t, text, number(1, n), end(1))
		cut(t, "$-"+text+"(%a", sign(1, "$"), sign(1, "-"), number(1, n), sign(1, "("), register(1, "a"), end(1))
		for _, behind := range []string{"a", "g", "x", "Z", "_", ".", ".5", "L"} {
			if behind != "a" || !strings.HasPrefix(text, "0x") || len(text) == 18 {
				refused(t, text+behind, 1)
			}
		}
	}
	for _, text := range []string{
		"00", "01", "012", "000", "09", "0X1", "0X", "0x", "0x ", "0xg", "0x_", "0x.", "0x\n1", "0x-1", "0x'a'", "0b1", "0a", "0f", "1f", "1a", "1e5", "1_000", "1.5", "1.", "0.", "0_", "0x1g", "0x1.", "0x1_", "0x1x",
		"18446744073709551616", "18446744073709551617", "18446744073709551620", "18446744073709551700", "28446744073709551615", "99999999999999999999", "100000000000000000000", "184467440737095516150", "36893488147419103232", "340282366920938463463374607431768211456",
		"0x00000000000000000", "0x00000000000000001", "0x10000000000000000", "0xfffffffffffffffff", "0xFFFFFFFFFFFFFFFFF",
		"1" + strings.Repeat("0", 60000), "0x" + strings.Repeat("0", 60000), "0x" + strings.Repeat("f", 60000), strings.Repeat("0", 60000),
	} {
		refused(t, text, 1)
		refused(t, "a\n "+text+"\n?", 2)
	}
	cut(t, "1%a", number(1, 1), register(1, "a"), end(1))
	cut(t, "1'a'\"b\"2", number(1, 1), number(1, 97), quoted(1, "b"), number(1, 2), end(1))
	cut(t, "1#2", number(1, 1), end(1))
	cut(t, "1 a", number(1, 1), name(1, "a"), end(1))
	cut(t, "0 x1", number(1, 0), name(1, "x1"), end(1))
	cut(t, "0;1", number(1, 0), end(1), number(1, 1), end(1))
}

// TestP1001HexDigits: all of them, at each place of 16, and the bytes beside them.
func TestP1001HexDigits(t *testing.T) {
	for b := range 256 {
		n := strings.Index("0123456789abcdef", strings.ToLower(of(b)))
		if b >= 128 {
			n = -1
		}
		for places := range 16 {
			text := "0x" + of(b) + strings.Repeat("0", places)
			if n >= 0 {
				cut(t, text, number(1, int(uint64(n)<<(4*places))), end(1))
			} else {
				refused(t, text, 1)
			}
		}
	}
}

// TestP1001Bytes: between two '.
func TestP1001Bytes(t *testing.T) {
	for b := range 256 {
		text := "'" + of(b) + "'"
		if b < 33 || b > 126 {
			refused(t, text, 1)
			continue
		}
		cut(t, text, number(1, b), end(1))
		cut(t, text+" x", number(1, b), name(1, "x"), end(1))
		cut(t, text+text, number(1, b), number(1, b), end(1))
		for _, behind := range []string{"a", "Z", "_", ".", "0", "9", "x1"} {
			refused(t, text+behind, 1)
		}
		for _, wrong := range []string{"'" + of(b), "'" + of(b) + " '", "' " + of(b) + "'", "'" + of(b) + "\n'", "'" + of(b) + "\""} {
			refused(t, wrong, 1)
		}
	}
	for _, text := range []string{"'", "''", "' '", "'ab'", "'\\n'", "'\\''", "''''", "'\n'", "'a", "a'", "'\xc3\xa4'", "'\t'"} {
		refused(t, text, 1)
	}
	cut(t, "'''", number(1, 39), end(1))
	cut(t, "'\\'", number(1, 92), end(1))
	cut(t, "'\"' '#' ';'", number(1, 34), number(1, 35), number(1, 59), end(1))
	cut(t, "'''+'''", number(1, 39), sign(1, "+"), number(1, 39), end(1))
}

func TestP1001Texts(t *testing.T) {
	for written, text := range map[string]string{
		``: "", ` `: " ", `a`: "a", `a b`: "a b", `#`: "#", `a # b ; c`: "a # b ; c", `;`: ";", `'`: "'", `%`: "%", `?!{}[]`: "?!{}[]", `~`: "~",
		`\\`: "\\", `\"`: "\"", `\n`: "\n", `\t`: "\t", `\0`: "\x00", `\x00`: "\x00", `\x41`: "A", `\xff`: "\xff", `\xFf`: "\xff", `\x0a`: "\n", `\x22`: "\"", `\x5c`: "\\", `\x7f`: "\x7f", `\xaB`: "\xab",
		`\\n`: "\\n", `\\\n`: "\\\n", `\"\"`: "\"\"", `\\\"`: "\\\"", `\00`: "\x000", `\012`: "\x0012", `\x411`: "A1", `\nn`: "\nn", `\\x41`: "\\x41", `\0\0`: "\x00\x00", `\x00\x01\x02`: "\x00\x01\x02",
	} {
		cut(t, `"`+written+`"`, quoted(1, text), end(1))
		cut(t, `a"`+written+`"1`, name(1, "a"), quoted(1, text), number(1, 1), end(1))
		cut(t, `"`+written+`""`+written+`"`, quoted(1, text), quoted(1, text), end(1))
		cut(t, "\n\""+written+"\" # \"\n", quoted(2, text), end(2))
	}
}

// TestP1001BytesOfTexts: each byte in a text, as itself and behind a \.
func TestP1001BytesOfTexts(t *testing.T) {
	escapes := map[int]string{'\\': "\\", '"': "\"", 'n': "\n", 't': "\t", '0': "\x00"}
	for b := range 256 {
		text := "\"a" + of(b) + "b\""
		switch {
		case b == '"':
			refused(t, text, 1)
		case b >= 32 && b <= 126 && b != '\\':
			cut(t, text, quoted(1, "a"+of(b)+"b"), end(1))
		default:
			refused(t, text, 1)
		}
		escaped := "\"a\\" + of(b) + "b\""
		if is, ok := escapes[b]; ok {
			cut(t, escaped, quoted(1, "a"+is+"b"), end(1))
		} else {
			refused(t, escaped, 1)
		}
	}
}

// TestP1001EscapedBytes: all, in small and great digits; and what are no two digits.
func TestP1001EscapedBytes(t *testing.T) {
	for b := range 256 {
		for _, how := range []string{"\"\\x%02x\"", "\"\\x%02X\""} {
			cut(t, fmt.Sprintf(how, b), quoted(1, of(b)), end(1))
		}
		if !strings.Contains("0123456789abcdefABCDEF", of(b)) {
			refused(t, "\"\\x"+of(b)+"0\"", 1)
			refused(t, "\"\\x0"+of(b)+"\"", 1)
			refused(t, "\"\\x"+of(b)+of(b)+"\"", 1)
		}
	}
	for _, text := range []string{`"\x`, `"\x"`, `"\x4\x"`, `"\x0`, `"\x0"`, `"\X00"`, `"\x"00`, "\"\\x\n00\"", "\"\\x0\n0\"", `"\`, `"\"`, `"\\\"`, "\"\\\n\"", `"\ n"`, `"\N"`, `"\1"`, `"\a"`} {
		refused(t, text, 1)
	}
}

// TestP1001TextsEnd: on their line.
func TestP1001TextsEnd(t *testing.T) {
	for _, text := range []string{`"`, `"a`, `"a #`, `"a # b" "c`, `"""`, `a "`, `"a\"`, `"a\\\"`, "\"\n", "\"\n\"", "\"a\nb\"", "\"a\\\nb\"", "\"a\r\"", "\"a\t\""} {
		refused(t, text, 1)
		refused(t, "a\n#\n"+text+"\n?", 3)
	}
}

func TestP1001Signs(t *testing.T) {
	for _, a := range signs() {
		cut(t, a, sign(1, a), end(1))
		cut(t, a+"a"+a, sign(1, a), name(1, "a"), sign(1, a), end(1))
		for _, b := range signs() {
			cut(t, a+b, sign(1, a), sign(1, b), end(1))
			cut(t, a+" \t"+b+" ", sign(1, a), sign(1, b), end(1))
		}
		for _, wrong := range []string{"<", ">"} {
			refused(t, a+wrong, 1)
			refused(t, wrong+" "+a, 1)
		}
	}
	for _, text := range []string{"<", ">", "<>", "><", "< <", "> >", "<\n<", ">\n>", "<<<", ">>>", "<<>", "<a", ">1", "<=", ">=", "<#<", "!", "?", "[", "]", "{", "}", "\\", "`", "\r", "\x00", "\v", "\f", "\x7f", "\x80", "\xa0", "\xff"} {
		refused(t, text, 1)
	}
	cut(t, "<<<<>>>>", sign(1, "<<"), sign(1, "<<"), sign(1, ">>"), sign(1, ">>"), end(1))
	cut(t, "1<<2>>3", number(1, 1), sign(1, "<<"), number(1, 2), sign(1, ">>"), number(1, 3), end(1))
}

// TestP1001FirstBadLine: of several, whatever is wrong in each of them; lines without tokens count.
func TestP1001FirstBadLine(t *testing.T) {
	bad := []string{"?", "a ?", "\"a", "012", "1a", "%", "<", "'a", "\"\\q\"", long(256), "18446744073709551616", "a; ; ?", "\x80", "? # x"}
	for _, first := range bad {
		for _, then := range bad {
			refused(t, first+"\n"+then, 1)
			refused(t, "\n"+first+"\n"+then, 2)
			refused(t, "a # ?\n;\n\n"+first+"\n\n"+then+"\n", 4)
		}
		refused(t, strings.Repeat("\n", 3999)+first, 4000)
		refused(t, strings.Repeat("a\n", 3999)+first+"\n", 4000)
	}
	for _, fine := range []string{"# ?", "a #\"", "; # 012 %"} {
		refused(t, fine+"\n?\n", 2)
	}
}

func TestP1001MaxText(t *testing.T) {
	row := strings.Repeat("a ", 32768)
	if l := all(t, row); len(l) != 32769 || l[32767] != name(1, "a") || l[32768] != end(1) {
		t.Errorf("%d tokens", len(l))
	}
	if l := all(t, row[:65535]+"\n"); len(l) != 32769 {
		t.Errorf("%d tokens", len(l))
	}
	tooMuch(t, row+"\n")
	tooMuch(t, row+" ")
	tooMuch(t, row+"?")
	for _, b := range []string{" ", "#", "\t"} {
		cut(t, strings.Repeat(b, 65536))
		cut(t, strings.Repeat(b, 65535)+"\n")
		tooMuch(t, strings.Repeat(b, 65537))
		tooMuch(t, strings.Repeat(b, 65536)+"\n")
	}
	for _, text := range []string{"\"" + long(65534) + "\"", "\"" + long(65533) + "\"\n"} {
		cut(t, text, quoted(1, strings.Trim(text, "\"\n")), end(1))
		tooMuch(t, text+" ")
		tooMuch(t, text+"\n")
		tooMuch(t, " "+text)
	}
	cut(t, "%"+long(65535), register(1, long(65535)), end(1))
	tooMuch(t, "%"+long(65536))
	if l := all(t, strings.Repeat(";", 65536)); len(l) != 65537 {
		t.Errorf("%d tokens", len(l))
	}
	refused(t, strings.Repeat("?", 65536), 1)
	tooMuch(t, strings.Repeat("?", 65537))
}

func TestP1001MaxLines(t *testing.T) {
	for _, line := range []string{"", " ", "#x", "a", ";", "\"b\""} {
		lines := strings.Repeat(line+"\n", 4000)
		for _, text := range []string{lines, lines[:len(lines)-1]} {
			want, at, e := modelAll(text)
			if at != 0 || e != api.OK {
				t.Fatal(at, e)
			}
			cut(t, text, want...)
		}
		tooMuch(t, lines+"\n")
		tooMuch(t, lines+" ")
		tooMuch(t, lines+"a")
		tooMuch(t, lines+"#")
		tooMuch(t, lines+lines)
	}
	l := all(t, strings.Repeat("\n", 3999)+"a")
	if len(l) != 2 || l[0] != name(4000, "a") || l[1] != end(4000) {
		t.Error(l)
	}
	// A ; ends no line.
	if l := all(t, strings.Repeat(";", 5000)); len(l) != 5001 || l[5000] != end(1) {
		t.Errorf("%d tokens", len(l))
	}
}

// TestP1001ErrorsInOrder: too much is told ahead of what is no token.
func TestP1001ErrorsInOrder(t *testing.T) {
	for _, bad := range []string{"?", "\"", "012", "%"} {
		refused(t, bad+strings.Repeat("\n", 4000), 1)
		tooMuch(t, bad+strings.Repeat("\n", 4001))
		tooMuch(t, bad+"\n"+strings.Repeat("\n", 3999)+bad)
		tooMuch(t, strings.Repeat("\n", 4000)+bad)
		refused(t, bad+strings.Repeat(" ", 65536-len(bad)), 1)
		tooMuch(t, bad+strings.Repeat(" ", 65537-len(bad)))
		tooMuch(t, bad+strings.Repeat("\n", 65537))
	}
}

// TestP1001Model: all texts of a few bytes of each sort, cut as the model cuts them.
func TestP1001Model(t *testing.T) {
	check := func(text string) {
		want, line, e := modelAll(text)
		checkAll(t, text, want, line, e)
	}
	eachText(strings.Split("a x f g 0 1 9 _ . % ' \" \\ n < > ; # + ? \n \t \x7f \x80", " "), 4, check)
	eachText(append(strings.Split("a 0 x \" \\ ' # ; \n", " "), " "), 5, check)
	eachText([]string{"a", "%r", "12", "0x1F", "'", "\"", "\\x4", "\\n", "1", "<<", ">", ",", ";", "#", "\n", " ", "\t", "18446744073709551615"}, 4, check)
}
