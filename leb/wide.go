package leb

import (
	"math/bits"

	"gangway/api"
)

// maxGroups: as many groups of seven bits as 64 bits may take.
const maxGroups = 10

// word: the numbers of each size that is written as bytes; the type tells the size.
type word interface {
	uint8 | uint16 | uint32 | uint64
}

// wide: a number of 64 bits; the type tells what comes in from above when it is shifted right: 0, or its top bit again.
type wide interface {
	uint64 | int64
}

// lowFirst: all the bytes of a number, the low one first.
func lowFirst[T word](n T) []byte {
	b := make([]byte, bits.Len64(uint64(^T(0)))/8)
	for i := range len(b) {
		b[i] = byte(n >> (8 * i))
	}
	return b
}

// low: what so many low bits of a number mean alone: without a sign or with one, as the type is.
func low[T wide](n T, width int) T {
	above := 64 - width
	return n << above >> above
}

// inGroups: the first group that alone means all that is left is the last one: so there are as few as may be.
func inGroups[T wide](n T) []byte {
	var b []byte
	for low(n, 7) != n {
		b = append(b, byte(n)|128)
		n >>= 7
	}
	return append(b, byte(n)&127)
}

// reader: what stands at a place of bytes, read as a number of the type.
type reader[T wide] struct {
	b  []byte
	at int
}

// fixed: so many bytes, the low one first; the caller has seen that they are there.
func (r reader[T]) fixed(size int) T {
	var n T
	for i := range size {
		n |= T(r.b[r.at+i]) << (8 * i)
	}
	return low(n, 8*size)
}

// grouped: a number in groups of seven bits, and the place behind it.
func (r reader[T]) grouped() (n T, end int, e api.Errno) {
	count, e := r.groups()
	if e != api.OK {
		return 0, 0, e
	}
	for i := range count {
		n |= T(r.b[r.at+i]&127) << (7 * i)
	}
	// Of a tenth group the lowest bit alone is within 64 bits: the others must be what comes in above it.
	if count == maxGroups && r.b[r.at+count-1] != byte(n>>63)&127 {
		return 0, 0, api.ErrLeb
	}
	return low(n, min(7*count, 64)), r.at + count, api.OK
}

// groups: how many bytes the number at the place has. That ten are not enough is known only where an eleventh is there.
func (r reader[T]) groups() (int, api.Errno) {
	if r.at < 0 {
		return 0, api.ErrEnd
	}
	left := len(r.b) - r.at
	for i := range maxGroups {
		if i >= left {
			return 0, api.ErrEnd
		}
		if r.b[r.at+i] < 128 {
			return i + 1, api.OK
		}
	}
	if left == maxGroups {
		return 0, api.ErrEnd
	}
	return 0, api.ErrLeb
}
