package lexer

import (
	"strconv"

	"gangway/api"
)

// maxHexDigits: as many as tell a number of 64 bits, leading noughts among them.
const maxHexDigits = 16

// reader: cuts what its cursor hands on into tokens. Of what is no token it answers false, wherever that leaves the cursor.
type reader struct {
	cursor
	kinds
	line int
	list []Token
}

func newReader(text string) *reader {
	return &reader{cursor: cursor{text: text}, kinds: kindsOfBytes()}
}

func (r *reader) is(kind uint8) bool { return r.has(r.peek(), kind) }

func (r *reader) skip(kind uint8) {
	for r.is(kind) {
		r.at++
	}
}

func (r *reader) add(t Token) {
	t.Line = r.line
	r.list = append(r.list, t)
}

// cut: all lines; or, if one has something that is no token, those ahead of it.
func (r *reader) cut() bool {
lines:
	for r.more() {
		r.line++
		before := len(r.list)
		for {
			r.skip(blank)
			if r.peek() == '#' {
				r.skipLine()
			}
			if r.take(lineFeed) {
				if len(r.list) > before {
					r.add(Token{Kind: End})
				}
				continue lines
			}
			t, ok := r.token()
			if !ok {
				return false
			}
			r.add(t)
		}
	}
	return true
}

// token: the one that begins here, as long as can be, without its line.
func (r *reader) token() (Token, bool) {
	switch {
	case r.is(letter | nameMark):
		return r.name()
	case r.is(digit):
		return r.number()
	case r.take('\''):
		return r.byteNumber()
	case r.take('"'):
		return r.quotedText()
	case r.take('%'):
		return r.register()
	case r.take(';'):
		return Token{Kind: End}, true
	}
	return r.sign()
}

func (r *reader) name() (Token, bool) {
	from := r.at
	r.skip(inNames)
	if r.at-from > api.MaxName {
		return Token{}, false
	}
	return Token{Kind: Name, Text: r.since(from)}, true
}

func (r *reader) register() (Token, bool) {
	if !r.is(letter) {
		return Token{}, false
	}
	from := r.at
	r.skip(letter | digit)
	return Token{Kind: Register, Text: r.since(from)}, true
}

// number: a nought goes on with an x alone.
func (r *reader) number() (Token, bool) {
	from, base := r.at, 10
	if !r.take('0') {
		r.skip(digit)
	} else if r.take('x') {
		from, base = r.at, 16
		r.skip(hexDigit)
	}
	digits := r.since(from)
	n, err := strconv.ParseUint(digits, base, 64)
	if err != nil || base == 16 && len(digits) > maxHexDigits {
		return Token{}, false
	}
	return r.numberOf(int(n))
}

// byteNumber: behind its first '.
func (r *reader) byteNumber() (Token, bool) {
	b := r.next()
	if !isShown(b) || !r.take('\'') {
		return Token{}, false
	}
	return r.numberOf(int(b))
}

// numberOf: the number that ends here.
func (r *reader) numberOf(n int) (Token, bool) {
	if r.is(inNames) {
		return Token{}, false
	}
	return Token{Kind: Number, N: n}, true
}

// quotedText: behind its first ".
func (r *reader) quotedText() (Token, bool) {
	var b []byte
	for !r.take('"') {
		x, ok := r.textByte()
		if !ok {
			return Token{}, false
		}
		b = append(b, x)
	}
	return Token{Kind: Text, Text: string(b)}, true
}

// textByte: the next one that a text stands for.
func (r *reader) textByte() (byte, bool) {
	b := r.next()
	if b == '\\' {
		return r.escape()
	}
	return b, b == ' ' || isShown(b)
}

// escape: behind its \.
func (r *reader) escape() (byte, bool) {
	switch b := r.next(); b {
	case '\\', '"':
		return b, true
	case 'n':
		return '\n', true
	case 't':
		return '\t', true
	case '0':
		return 0, true
	case 'x':
		return r.twoDigits()
	}
	return 0, false
}

func (r *reader) twoDigits() (byte, bool) {
	from := r.at
	for range 2 {
		if !r.has(r.next(), hexDigit) {
			return 0, false
		}
	}
	n, err := strconv.ParseUint(r.since(from), 16, 8)
	return byte(n), err == nil
}

func (r *reader) sign() (Token, bool) {
	from := r.at
	b := r.next()
	doubled := (b == '<' || b == '>') && r.take(b)
	if !doubled && !r.has(b, signByte) {
		return Token{}, false
	}
	return Token{Kind: Sign, Text: r.since(from)}, true
}
