package lexer_test

import (
	"fmt"
	"math/big"
	"regexp"
	"strings"

	"gangway/api"
	"gangway/lexer"
)

// The chapter once more, slowly: its table as regular expressions, its numbers as true ones.

type shape struct {
	kind int
	how  *regexp.Regexp
}

func longest(pattern string) *regexp.Regexp {
	r := regexp.MustCompile(`^(?:` + pattern + `)`)
	r.Longest()
	return r
}

var shapes = []shape{
	{lexer.Name, longest(`[A-Za-z_.][A-Za-z0-9_.]*`)},
	{lexer.Register, longest(`%[A-Za-z][A-Za-z0-9]*`)},
	{lexer.Number, longest(`0|[1-9][0-9]*|0x[0-9a-fA-F]{1,16}|'[\x21-\x7e]'`)},
	{lexer.Text, longest(`"(?:[\x20-\x21\x23-\x5b\x5d-\x7e]|\\[\\"nt0]|\\x[0-9a-fA-F][0-9a-fA-F])*"`)},
	{lexer.Sign, longest(`[,():$+*/&~@=|^-]|<<|>>`)},
	{lexer.End, longest(`;`)},
}

var (
	goesOn = regexp.MustCompile(`^[A-Za-z0-9_.]`)
	escape = regexp.MustCompile(`\\(?:x..|.)`)
)

func modelAll(text string) ([]lexer.Token, int, api.Errno) {
	if len(text) > 65536 {
		return nil, 0, api.ErrSize
	}
	lines := strings.Split(text, "\n")
	if lines[len(lines)-1] == "" {
		lines = lines[:len(lines)-1]
	}
	if len(lines) > 4000 {
		return nil, 0, api.ErrSize
	}
	var l []lexer.Token
	for k, line := range lines {
		tokens, ok := modelLine(line)
		if !ok {
			return nil, k + 1, api.ErrToken
		}
		l = append(l, atLines(tokens, k+1)...)
	}
	return l, 0, api.OK
}

// modelLine: a line's tokens, of line 0, and its End.
func modelLine(line string) ([]lexer.Token, bool) {
	var l []lexer.Token
	for {
		line = strings.TrimLeft(line, " \t")
		if line == "" || line[0] == '#' {
			if len(l) > 0 {
				l = append(l, end(0))
			}
			return l, true
		}
		token, written, ok := modelToken(line)
		if !ok {
			return nil, false
		}
		l, line = append(l, token), line[len(written):]
	}
}

// modelToken: no two kinds begin alike.
func modelToken(line string) (token lexer.Token, written string, ok bool) {
	for _, s := range shapes {
		written = s.how.FindString(line)
		if written == "" {
			continue
		}
		token.Kind = s.kind
		switch s.kind {
		case lexer.Name:
			token.Text = written
			return token, written, len(written) <= 255
		case lexer.Sign:
			token.Text = written
		case lexer.Register:
			token.Text = written[1:]
		case lexer.Text:
			token.Text = escape.ReplaceAllStringFunc(written[1:len(written)-1], modelEscape)
		case lexer.Number:
			n, ok := modelNumber(written)
			token.N = n
			return token, written, ok && !goesOn.MatchString(line[len(written):])
		}
		return token, written, true
	}
	return lexer.Token{}, "", false
}

func modelNumber(written string) (int, bool) {
	if written[0] == '\'' {
		return int(written[1]), true
	}
	n, _ := new(big.Int).SetString(written, 0)
	power := new(big.Int).Lsh(big.NewInt(1), 64)
	if n.Cmp(power) >= 0 {
		return 0, false
	}
	if n.Bit(63) == 1 {
		n.Sub(n, power)
	}
	return int(n.Int64()), true
}

func modelEscape(written string) string {
	switch written[1] {
	case 'n':
		return "\n"
	case 't':
		return "\t"
	case '0':
		return "\x00"
	case 'x':
		var b byte
		fmt.Sscanf(written[2:], "%02x", &b)
		return string([]byte{b})
	}
	return written[1:]
}

func modelQuote(s string) string {
	quoted := `"`
	for _, b := range []byte(s) {
		switch {
		case b == '"':
			quoted += `\"`
		case b == '\\':
			quoted += `\\`
		case b == 10:
			quoted += `\n`
		case b == 9:
			quoted += `\t`
		case b >= 32 && b <= 126:
			quoted += string(rune(b))
		default:
			quoted += fmt.Sprintf(`\x%02x`, b)
		}
	}
	return quoted + `"`
}

// modelSpelled: a token's text, if it may be; and whether it may.
func modelSpelled(t lexer.Token) (string, bool) {
	spelled, least := t.Text, t.Text
	switch t.Kind {
	case lexer.End:
		return "\n", t.N == 0 && t.Text == ""
	case lexer.Number:
		n := big.NewInt(int64(t.N))
		if t.N < 0 {
			n.Add(n, new(big.Int).Lsh(big.NewInt(1), 64))
		}
		return n.String(), t.Text == ""
	case lexer.Register:
		spelled = "%" + t.Text
		least = spelled
	case lexer.Text:
		spelled = modelQuote(t.Text)
		// The shortest way to write it: only a byte 0 has a shorter one.
		var parts []string
		for _, part := range strings.Split(t.Text, "\x00") {
			quoted := modelQuote(part)
			parts = append(parts, quoted[1:len(quoted)-1])
		}
		least = `"` + strings.Join(parts, `\0`) + `"`
	}
	// What All answers of it, a line alone.
	l, _, e := modelAll(least)
	return spelled, e == api.OK && len(l) == 2 && l[0] == lexer.Token{Kind: t.Kind, Line: 1, N: t.N, Text: t.Text}
}

func modelPrint(l []lexer.Token) (string, api.Errno) {
	text, tokens := "", 0
	for _, t := range l {
		spelled, ok := modelSpelled(t)
		if !ok {
			return "", api.ErrToken
		}
		if t.Kind == lexer.End {
			text, tokens = text+spelled, 0
			continue
		}
		if tokens++; tokens > 1 {
			text += " "
		}
		text += spelled
	}
	if tokens > 0 {
		text += "\n"
	}
	if len(text) > 65536 {
		return "", api.ErrSize
	}
	return text, api.OK
}
