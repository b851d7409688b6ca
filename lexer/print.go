package lexer

import (
	"strconv"
	"strings"

	"gangway/api"
)

// hexDigits: of numbers to the base 16.
const hexDigits = "0123456789abcdef"

// spelled: as Print writes it, of a token that comes out of All.
func spelled(t Token) string {
	switch t.Kind {
	case Number:
		return strconv.FormatUint(uint64(t.N), 10)
	case Text:
		return Quote(t.Text)
	case Register:
		return "%" + t.Text
	case End:
		return "\n"
	}
	return t.Text
}

func appendQuoted(quoted []byte, b byte) []byte {
	switch {
	case b == '"' || b == '\\':
		return append(quoted, '\\', b)
	case b == ' ' || isShown(b):
		return append(quoted, b)
	case b == '\n':
		return append(quoted, '\\', 'n')
	case b == '\t':
		return append(quoted, '\\', 't')
	}
	return append(quoted, '\\', 'x', hexDigits[b>>4], hexDigits[b&15])
}

func allComeOut(l []Token) bool {
	r := newReader("")
	for _, t := range l {
		if !r.comesOut(t) {
			return false
		}
	}
	return true
}

// comesOut: whether All answers such a token of some text.
func (r *reader) comesOut(t Token) bool {
	switch {
	case len(t.Text) > api.MaxText:
		// None stands for more bytes than it is written with.
		return false
	case t.Kind == Text:
		return t.N == 0 && leastLength(t.Text) <= api.MaxText
	case t.Kind == End:
		return t.N == 0 && t.Text == ""
	}
	return r.cuts(spelled(t), t)
}

// leastLength: of a text of which All answers a Text with these bytes. It takes \0, too, where Quote writes \x00.
func leastLength(s string) int {
	return len(Quote(s)) - 2*strings.Count(s, "\x00")
}

// cuts: whether a text, by which this token is spelled, is cut into it. (Nothing of it is left then, since all that spells it is in it.)
func (r *reader) cuts(text string, want Token) bool {
	r.cursor = cursor{text: text}
	t, ok := r.token()
	t.Line = want.Line
	return ok && len(text) <= api.MaxText && t == want
}
