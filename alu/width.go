package alu

import (
	"math/bits"

	"gangway/api"
)

// width: a size in bytes, its bits, and which bits of a shift's count it takes.
type width struct {
	size, bits, counts int
}

var widths = [3]width{{1, 8, 31}, {4, 32, 31}, {8, 64, 63}}

// widthOf: with an error the width has no bits, and every number is 0 in it.
func widthOf(size int) (width, api.Errno) {
	for _, w := range widths {
		if w.size == size {
			return w, api.OK
		}
	}
	return width{}, api.ErrArg
}

func (w width) plain(x uint64) uint64 {
	above := 64 - w.bits
	return x << above >> above
}

func (w width) signed(x uint64) int64 {
	above := 64 - w.bits
	return int64(x<<above) >> above
}

// top: whether the highest of the low bits is 1.
func (w width) top(x uint64) bool { return w.signed(x) < 0 }

// pair, single, shifted: the operands of the three kinds of ops; bits above the size's may be anything.
type pair struct {
	a, b uint64
	in   bool
}

type single struct {
	a     uint64
	carry bool
}

type shifted struct {
	a uint64
	n int
}

type operands interface {
	pair | single | shifted
}

// outcome: a result, of which the low bits count, and the flags that can't be told from it.
type outcome struct {
	r    uint64
	c, o bool
}

// add: a carry leaves the top where both have a 1, or where one has it and the sum lost it; a sum whose sign is unlike both of theirs did not fit.
func (w width) add(x pair) outcome {
	r := x.a + x.b + bit(x.in, 1)
	return outcome{r, w.top(x.a&x.b | (x.a|x.b)&^r), w.top((x.a ^ r) & (x.b ^ r))}
}

// sub: a - b is a + ^b + 1, and a borrow is the carry that this sum lacks.
func (w width) sub(x pair) outcome {
	d := w.add(pair{x.a, ^x.b, !x.in})
	d.c = !d.c
	return d
}

func (w width) and(x pair) outcome { return outcome{r: x.a & x.b} }

func (w width) or(x pair) outcome { return outcome{r: x.a | x.b} }

func (w width) xor(x pair) outcome { return outcome{r: x.a ^ x.b} }

// mul: the product of 128 bits fits just if it is its own low bits, taken as signed.
func (w width) mul(x pair) outcome {
	a, b := w.signed(x.a), w.signed(x.b)
	high, low := bits.Mul64(uint64(a), uint64(b))
	// As plain numbers a and b are 2^64 more, where they are below 0.
	high -= uint64(a>>63&b) + uint64(b>>63&a)
	r := w.signed(low)
	over := uint64(r) != low || uint64(r>>63) != high
	return outcome{low, over, over}
}

func (w width) inc(x single) outcome {
	d := w.add(pair{a: x.a, b: 1})
	d.c = x.carry
	return d
}

func (w width) dec(x single) outcome {
	d := w.sub(pair{a: x.a, b: 1})
	d.c = x.carry
	return d
}

func (w width) neg(x single) outcome { return w.sub(pair{b: x.a}) }

func (w width) not(x single) outcome { return outcome{r: ^x.a} }

// shl, shr, sar: by at least 1: the bit that goes out last is at the edge when all but one of the shift is done.
func (w width) shl(x shifted) outcome {
	last := w.plain(x.a) << (x.n - 1)
	r := last << 1
	c := w.top(last)
	return outcome{r, c, x.n == 1 && w.top(r) != c}
}

func (w width) shr(x shifted) outcome {
	last := w.plain(x.a) >> (x.n - 1)
	return outcome{last >> 1, last&1 == 1, x.n == 1 && w.top(x.a)}
}

func (w width) sar(x shifted) outcome {
	last := w.signed(x.a) >> (x.n - 1)
	return outcome{uint64(last >> 1), last&1 == 1, false}
}
