package ehframe

import (
	"gangway/api"
	"gangway/leb"
)

// maxAddress: pointers and addresses are at most so far from 0.
const maxAddress = 1 << 60

func isAddress(n int) bool { return -maxAddress <= n && n <= maxAddress }

// encoding: how a number stands there, and from where it is counted.
type encoding struct {
	size    int // bytes; those of a number in groups of seven bits before it was put into them
	signed  bool
	grouped bool
	from    int // Pcrel, Datarel or 0
}

// encodings are those that count from 0.
func encodings() map[int]encoding {
	return map[int]encoding{
		Abs:  {size: 8, signed: true},
		Uleb: {size: 8, grouped: true},
		U2:   {size: 2},
		U4:   {size: 4},
		U8:   {size: 8},
		Sleb: {size: 8, signed: true, grouped: true},
		S2:   {size: 2, signed: true},
		S4:   {size: 4, signed: true},
		S8:   {size: 8, signed: true},
	}
}

func encodingOf(enc int) (encoding, bool) {
	x, ok := encodings()[plain(enc)]
	x.from = enc - plain(enc)
	return x, ok && (x.from == 0 || x.from == Pcrel || x.from == Datarel)
}

// plain is an encoding without Pcrel and Datarel.
func plain(enc int) int { return enc & 15 }

// base is the address that is taken off a pointer at the address at.
func (x encoding) base(at, data int) int {
	switch x.from {
	case Pcrel:
		return at
	case Datarel:
		return data
	}
	return 0
}

// mayHold: the number is no pointer's that may not be, and the encoding has room for it.
func (x encoding) mayHold(n int) bool {
	return isAddress(n) && leb.Fits(n, 8*x.size, x.signed)
}

// bytes writes a number that the encoding may hold.
func (x encoding) bytes(n int) []byte {
	if !x.grouped {
		b, _ := leb.Put(n, x.size)
		return b
	}
	if x.signed {
		return leb.Sleb(n)
	}
	return leb.Uleb(n)
}

// number is the one that stands at a place, and the place behind it. One without a sign that is no int comes out below 0: no such encoding may hold that.
func (x encoding) number(b []byte, at int) (n, end int, e api.Errno) {
	if !x.grouped {
		n, e = leb.Get(b, at, x.size, x.signed)
		return n, at + x.size, e
	}
	if x.signed {
		return leb.ReadSleb(b, at)
	}
	return leb.ReadUleb(b, at)
}
