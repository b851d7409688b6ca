// Package leb is layer 1: bytes and numbers: see shared/doc/01-leb.md.
package leb

import (
	"bytes"
	"math"

	"gangway/api"
)

// maxAlign: the greatest alignment that Align takes.
const maxAlign = 1 << 30

// Put: a number, low byte first; Get: back.
func Put(n, size int) ([]byte, api.Errno) {
	if !isSize(size) {
		return nil, api.ErrArg
	}
	if !Fits(n, 8*size, true) && !Fits(n, 8*size, false) {
		return nil, api.ErrRange
	}
	switch size {
	case 1:
		return lowFirst(uint8(n)), api.OK
	case 2:
		return lowFirst(uint16(n)), api.OK
	case 4:
		return lowFirst(uint32(n)), api.OK
	}
	return lowFirst(uint64(n)), api.OK
}

func Get(b []byte, at, size int, signed bool) (int, api.Errno) {
	if !isSize(size) {
		return 0, api.ErrArg
	}
	if at < 0 || len(b)-at < size {
		return 0, api.ErrEnd
	}
	if signed {
		return int(reader[int64]{b, at}.fixed(size)), api.OK
	}
	return int(reader[uint64]{b, at}.fixed(size)), api.OK
}

// Uleb, Sleb: a number in groups of seven bits; ReadUleb, ReadSleb: back, and where it ends.
func Uleb(n int) []byte { return inGroups(uint64(n)) }

func Sleb(n int) []byte { return inGroups(int64(n)) }

func ReadUleb(b []byte, at int) (n, end int, e api.Errno) {
	v, end, e := reader[uint64]{b, at}.grouped()
	return int(v), end, e
}

func ReadSleb(b []byte, at int) (n, end int, e api.Errno) {
	v, end, e := reader[int64]{b, at}.grouped()
	return int(v), end, e
}

// Text: bytes up to a 0, and where it ends behind that.
func Text(b []byte, at int) (s string, end int, e api.Errno) {
	if at < 0 || at > len(b) {
		return "", 0, api.ErrEnd
	}
	length := bytes.IndexByte(b[at:], 0)
	if length < 0 {
		return "", 0, api.ErrEnd
	}
	return string(b[at : at+length]), at + length + 1, api.OK
}

// Align: the least multiple of a that is not below n; Add: a sum; Fits: in so many bits.
func Align(n, a int) (int, api.Errno) {
	if a < 1 || a > maxAlign || a&(a-1) != 0 {
		return 0, api.ErrArg
	}
	// MaxInt - (a - 1) is itself a multiple of a, and the last one: what is above it has none.
	if n < 0 || n > math.MaxInt-(a-1) {
		return 0, api.ErrRange
	}
	return (n + a - 1) &^ (a - 1), api.OK
}

func Add(a, b int) (int, api.Errno) {
	if b > 0 && a > math.MaxInt-b || b < 0 && a < math.MinInt-b {
		return 0, api.ErrRange
	}
	return a + b, api.OK
}

func Fits(n, bits int, signed bool) bool {
	if bits < 1 || bits > 64 {
		return false
	}
	if signed {
		above := n >> (bits - 1)
		return above == 0 || above == -1
	}
	return n >= 0 && n>>bits == 0
}

func isSize(size int) bool {
	return size == 1 || size == 2 || size == 4 || size == 8
}
