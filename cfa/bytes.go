package cfa

import (
	"gangway/api"
	"gangway/leb"
)

// Bytes that ops begin with. The three high ones have an N or an R in their low six bits.
const (
	byteAdvance1    = 2
	byteAdvance2    = 3
	byteAdvance4    = 4
	byteOffsetLong  = 5
	byteRestoreLong = 6
	byteUndefined   = 7
	byteSameValue   = 8
	byteRemember    = 10
	byteRecall      = 11
	byteDefCfa      = 12
	byteDefRegister = 13
	byteDefOffset   = 14
	byteOffsetSign  = 17

	highAdvance = 64
	highOffset  = 128
	highRestore = 192
)

// appendOp writes an op that may be.
func appendOp(b []byte, o Op) []byte {
	switch o.Kind {
	case Advance:
		return appendAdvance(b, o.N)
	case DefCfa:
		return appendNumbers(b, byteDefCfa, o.R, o.N)
	case DefOffset:
		return appendNumbers(b, byteDefOffset, o.N)
	case DefRegister:
		return appendNumbers(b, byteDefRegister, o.R)
	case Offset:
		return appendOffset(b, o.R, -o.N/unit)
	case Restore:
		return append(b, byte(highRestore+o.R))
	case Undefined:
		return appendNumbers(b, byteUndefined, o.R)
	case SameValue:
		return appendNumbers(b, byteSameValue, o.R)
	case Remember:
		return append(b, byteRemember)
	case Recall:
		return append(b, byteRecall)
	}
	return append(b, Nop)
}

func appendAdvance(b []byte, n int) []byte {
	switch {
	case n < highAdvance:
		return append(b, byte(highAdvance+n))
	case leb.Fits(n, 8, false):
		return appendFixed(b, byteAdvance1, n, 1)
	case leb.Fits(n, 16, false):
		return appendFixed(b, byteAdvance2, n, 2)
	}
	return appendFixed(b, byteAdvance4, n, 4)
}

func appendFixed(b []byte, first byte, n, size int) []byte {
	number, _ := leb.Put(n, size)
	return append(append(b, first), number...)
}

// appendOffset: units count down from the frame's address.
func appendOffset(b []byte, r, units int) []byte {
	if units < 0 {
		return append(appendNumbers(b, byteOffsetSign, r), leb.Sleb(units)...)
	}
	return append(append(b, byte(highOffset+r)), leb.Uleb(units)...)
}

func appendNumbers(b []byte, first byte, numbers ...int) []byte {
	b = append(b, first)
	for _, n := range numbers {
		b = append(b, leb.Uleb(n)...)
	}
	return b
}

// reader reads ops. It is bad once a number was none, and stays so.
type reader struct {
	b   []byte
	at  int
	bad bool
}

// op is the one that begins here, and whether it is whole and may be.
func (r *reader) op() (Op, bool) {
	first := r.fixed(1)
	o, known := Op{}, true
	switch {
	case first >= highRestore:
		o = Op{Kind: Restore, R: first - highRestore}
	case first >= highOffset:
		o = Op{Kind: Offset, R: first - highOffset, N: r.unsignedOffset()}
	case first >= highAdvance:
		o = Op{Kind: Advance, N: first - highAdvance}
	default:
		o, known = r.lowOp(first)
	}
	return o, known && !r.bad && mayBe(o)
}

// lowOp is the op of a first byte whose high two bits are 0, and whether there is such one.
func (r *reader) lowOp(first int) (Op, bool) {
	switch first {
	case Nop:
		return Op{Kind: Nop}, true
	case byteAdvance1:
		return Op{Kind: Advance, N: r.fixed(1)}, true
	case byteAdvance2:
		return Op{Kind: Advance, N: r.fixed(2)}, true
	case byteAdvance4:
		return Op{Kind: Advance, N: r.fixed(4)}, true
	case byteOffsetLong:
		return Op{Kind: Offset, R: r.unsigned(), N: r.unsignedOffset()}, true
	case byteRestoreLong:
		return Op{Kind: Restore, R: r.unsigned()}, true
	case byteUndefined:
		return Op{Kind: Undefined, R: r.unsigned()}, true
	case byteSameValue:
		return Op{Kind: SameValue, R: r.unsigned()}, true
	case byteRemember:
		return Op{Kind: Remember}, true
	case byteRecall:
		return Op{Kind: Recall}, true
	case byteDefCfa:
		return Op{Kind: DefCfa, R: r.unsigned(), N: r.unsigned()}, true
	case byteDefRegister:
		return Op{Kind: DefRegister, R: r.unsigned()}, true
	case byteDefOffset:
		return Op{Kind: DefOffset, N: r.unsigned()}, true
	case byteOffsetSign:
		return Op{Kind: Offset, R: r.unsigned(), N: r.signedOffset()}, true
	}
	return Op{}, false
}

func (r *reader) fixed(size int) int {
	n, e := leb.Get(r.b, r.at, size, false)
	return r.number(n, r.at+size, e)
}

// unsigned: one of 2^63 and above comes as one below 0, which no op takes.
func (r *reader) unsigned() int { return r.number(leb.ReadUleb(r.b, r.at)) }

func (r *reader) signed() int { return r.number(leb.ReadSleb(r.b, r.at)) }

func (r *reader) unsignedOffset() int {
	units := r.unsigned()
	r.bad = r.bad || units < 0
	return r.offset(units)
}

func (r *reader) signedOffset() int { return r.offset(r.signed()) }

// offset asks ahead of the product, which might wrap round.
func (r *reader) offset(units int) int {
	if !leb.Fits(units, 32, true) {
		r.bad = true
		return 0
	}
	return -unit * units
}

func (r *reader) number(n, end int, e api.Errno) int {
	if e != api.OK {
		r.bad = true
		return 0
	}
	r.at = end
	return n
}
