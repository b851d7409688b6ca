package lexer

import "strings"

const lineFeed = '\n'

// Kinds of bytes, as bits, since a byte may be of several. A line feed is of none, so that whatever goes on while bytes are of a kind ends with its line.
const (
	blank = 1 << iota
	letter
	digit
	hexDigit
	nameMark
	signByte
)

// inNames: what goes on with a name, and may not stand behind a number.
const inNames = letter | digit | nameMark

// kinds: of each byte.
type kinds [256]uint8

func kindsOfBytes() kinds {
	var k kinds
	k.add(blank, " \t")
	k.add(letter, "ABCDEFGHIJKLMNOPQRSTUVWXYZabcdefghijklmnopqrstuvwxyz")
	k.add(digit, "0123456789")
	k.add(hexDigit, "0123456789ABCDEFabcdef")
	k.add(nameMark, "_.")
	k.add(signByte, ",():$+-*/&~@=|^")
	return k
}

func (k *kinds) add(kind uint8, bytes string) {
	for at := range len(bytes) {
		k[bytes[at]] |= kind
	}
}

// has: whether a byte is of one of these kinds.
func (k *kinds) has(b, kind uint8) bool { return k[b]&kind != 0 }

// isShown: whether a byte is one that leaves a mark when it is printed.
func isShown(b byte) bool { return b > ' ' && b <= '~' }

// cursor: a place in a text, that hands on its bytes. Behind the last one it hands on line feeds, as a last line may lack its own.
type cursor struct {
	text string
	at   int
}

func (c *cursor) more() bool { return c.at < len(c.text) }

func (c *cursor) peek() byte {
	if !c.more() {
		return lineFeed
	}
	return c.text[c.at]
}

func (c *cursor) next() byte {
	b := c.peek()
	c.at++
	return b
}

// take: goes past the next byte, if it is this one.
func (c *cursor) take(b byte) bool {
	if c.peek() != b {
		return false
	}
	c.at++
	return true
}

func (c *cursor) skipLine() {
	for c.peek() != lineFeed {
		c.at++
	}
}

// since: what was gone past from there on, as a text of its own.
func (c *cursor) since(from int) string { return strings.Clone(c.text[from:c.at]) }
