package cfa_test

import (
	"math"
	"slices"
	"testing"

	"gangway/api"
	"gangway/cfa"
)

const (
	most  = 1<<31 - 1
	least = -1 << 31
)

// TestP1302Example: the chapter's own.
func TestP1302Example(t *testing.T) {
	l := ops(advance(1), defOffset(16), offset(6, -16), advance(3), defRegister(6))
	first := usualAt(0, 8)
	second := saved(usualAt(1, 16), 6, -16)
	third := second
	third.At, third.R = 4, 6
	checkRows(t, cfa.Usual(), l, 20, []cfa.Row{first, second, third}, api.OK)
	checkRefused(t, cfa.Usual(), ops(recall()), 20, api.ErrCfa)
}

// TestP1302EachOpInOps: what each kind does to a row.
func TestP1302EachOpInOps(t *testing.T) {
	initial := ops(defCfa(7, 8), offset(16, -8), undefined(3), offset(5, 24))
	base := saved(gone(usualAt(0, 8), 3), 5, 24)
	other := base
	other.R, other.N = 0, 40
	byRegister := base
	byRegister.R = 12
	farther := base
	farther.N = 0
	for _, c := range []struct {
		ops  []cfa.Op
		want cfa.Row
	}{
		{nil, base},
		{ops(nop()), base},
		{ops(defCfa(0, 40)), other},
		{ops(defOffset(0)), farther},
		{ops(defRegister(12)), byRegister},
		{ops(offset(3, -16)), saved(base, 3, -16)},
		{ops(offset(3, 0)), saved(base, 3, 0)},
		{ops(undefined(16)), gone(base, 16)},
		{ops(undefined(5)), gone(base, 5)},
		{ops(sameValue(5)), same(base, 5)},
		{ops(sameValue(3)), same(base, 3)},
		{ops(sameValue(5), restore(5)), base},
		{ops(undefined(16), restore(16)), base},
		{ops(sameValue(3), restore(3)), base},
		{ops(offset(0, -16), restore(0)), base},
		{ops(offset(3, -16), restore(5)), saved(base, 3, -16)},
		{ops(defOffset(0), restore(0)), farther},
		{ops(remember()), base},
		{ops(remember(), defCfa(0, 40), offset(2, 8), undefined(5), recall()), base},
		{ops(remember(), defCfa(0, 40), offset(2, 8), undefined(5), recall(), defOffset(0)), farther},
		{ops(advance(0)), base},
	} {
		checkRows(t, initial, c.ops, 0, []cfa.Row{c.want}, api.OK)
	}
}

// TestP1302EachOpInInitial: which kinds may stand there, and what they do.
func TestP1302EachOpInInitial(t *testing.T) {
	for _, c := range []struct {
		initial []cfa.Op
		want    cfa.Row
	}{
		{ops(defCfa(7, 8)), at(0, 7, 8)},
		{ops(nop(), defCfa(7, 8), nop()), at(0, 7, 8)},
		{ops(defCfa(7, 8), defOffset(16)), at(0, 7, 16)},
		{ops(defCfa(7, 8), defRegister(6)), at(0, 6, 8)},
		{ops(defCfa(7, 8), defCfa(0, 0)), at(0, 0, 0)},
		{ops(defCfa(16, 8)), at(0, 16, 8)},
		{ops(offset(3, -16), defCfa(7, 8)), saved(at(0, 7, 8), 3, -16)},
		{ops(defCfa(7, 8), undefined(3)), gone(at(0, 7, 8), 3)},
		{ops(defCfa(7, 8), undefined(3), sameValue(3)), at(0, 7, 8)},
		{ops(undefined(0), sameValue(16), offset(16, 8), defCfa(7, 8)), gone(saved(at(0, 7, 8), 16, 8), 0)},
	} {
		checkRows(t, c.initial, nil, 5, []cfa.Row{c.want}, api.OK)
	}
	for _, o := range ops(advance(0), advance(1), remember(), recall(), restore(0), restore(16)) {
		checkRefused(t, ops(defCfa(7, 8), o), nil, 20, api.ErrCfa)
		checkRefused(t, ops(o, defCfa(7, 8)), nil, 20, api.ErrCfa)
		checkRefused(t, ops(defCfa(7, 8), remember(), o), nil, 20, api.ErrCfa)
	}
}

// TestP1302RestoreIsOfTheFirstRow: not of the row that is told now, nor of one that was kept.
func TestP1302RestoreIsOfTheFirstRow(t *testing.T) {
	initial := ops(defCfa(7, 8), offset(3, -16), offset(3, -24))
	l := ops(offset(3, -32), advance(1), offset(3, -40), remember(), advance(2), restore(3), advance(1), recall())
	checkRows(t, initial, l, 4, []cfa.Row{
		saved(at(0, 7, 8), 3, -32), saved(at(1, 7, 8), 3, -40), saved(at(3, 7, 8), 3, -24), saved(at(4, 7, 8), 3, -40),
	}, api.OK)
	// The first row is what initial told, whatever ops change at place 0.
	checkRows(t, ops(defCfa(7, 8)), ops(offset(6, -16), restore(6)), 0, []cfa.Row{at(0, 7, 8)}, api.OK)
}

// TestP1302NoFrame: R of -1 where the first row should be, and where a DefOffset or DefRegister stands.
func TestP1302NoFrame(t *testing.T) {
	for _, initial := range [][]cfa.Op{
		nil, {}, ops(nop()), ops(offset(16, -8)), ops(undefined(0), sameValue(1)),
		ops(defOffset(8)), ops(defRegister(7)), ops(defOffset(8), defCfa(7, 8)), ops(defRegister(7), defCfa(7, 8)), ops(defRegister(7), defOffset(8)),
	} {
		checkRefused(t, initial, nil, 20, api.ErrCfa)
		checkRefused(t, initial, ops(defCfa(7, 8)), 20, api.ErrCfa)
	}
	// R of 0 is a register.
	checkRows(t, ops(defCfa(0, 0), defOffset(3)), nil, 0, []cfa.Row{at(0, 0, 3)}, api.OK)
	checkRows(t, ops(defCfa(0, 0), defRegister(0)), nil, 0, []cfa.Row{at(0, 0, 0)}, api.OK)
}

// TestP1302Size: ErrRange ahead of all others.
func TestP1302Size(t *testing.T) {
	tooMany := slices.Repeat(ops(nop()), api.MaxRows+1)
	for _, size := range []int{math.MinInt, -1, api.MaxBytes + 1, math.MaxInt} {
		checkRefused(t, cfa.Usual(), nil, size, api.ErrRange)
		checkRefused(t, nil, nil, size, api.ErrRange)
		checkRefused(t, tooMany, tooMany, size, api.ErrRange)
		checkRefused(t, cfa.Usual(), ops(cfa.Op{Kind: -1}), size, api.ErrRange)
	}
	for _, size := range []int{0, 1, api.MaxBytes} {
		checkRows(t, cfa.Usual(), nil, size, []cfa.Row{usualAt(0, 8)}, api.OK)
	}
}

// TestP1302Many: MaxRows ops, and one more; ErrSize ahead of ErrCfa.
func TestP1302Many(t *testing.T) {
	nops := slices.Repeat(ops(nop()), api.MaxRows)
	full := append(slices.Clone(nops[:api.MaxRows-2]), cfa.Usual()...)
	one := []cfa.Row{usualAt(0, 8)}
	checkRows(t, full, nops, 0, one, api.OK)
	checkRows(t, cfa.Usual(), nops, 0, one, api.OK)
	checkRefused(t, append(ops(nop()), full...), nil, 0, api.ErrSize)
	checkRefused(t, cfa.Usual(), append(ops(nop()), nops...), 0, api.ErrSize)
	checkRefused(t, append(ops(cfa.Op{Kind: 11}), full...), nil, 0, api.ErrSize)
	checkRefused(t, nil, append(ops(cfa.Op{Kind: 11}), nops...), 0, api.ErrSize)
	checkRefused(t, append(nops, nop()), ops(recall()), 0, api.ErrSize)
	checkRefused(t, append(ops(recall()), nops[1:]...), nil, 0, api.ErrCfa)
	checkRefused(t, cfa.Usual(), append(slices.Clone(nops[1:]), recall()), 0, api.ErrCfa)

	steps := slices.Repeat(ops(advance(1)), api.MaxRows)
	rows, e := cfa.Rows(cfa.Usual(), steps, api.MaxRows)
	if e != api.OK || len(rows) != api.MaxRows+1 || rows[api.MaxRows] != usualAt(api.MaxRows, 8) {
		t.Error(len(rows), e)
	}
	checkRefused(t, cfa.Usual(), steps, api.MaxRows-1, api.ErrCfa)
}

// edgesOfR: ops that have one, with a right one.
func edgesOfR() []cfa.Op {
	return ops(defCfa(0, 8), defRegister(0), offset(0, -8), restore(0), undefined(0), sameValue(0))
}

// TestP1302Registers: R from 0 to 16.
func TestP1302Registers(t *testing.T) {
	for _, o := range edgesOfR() {
		for _, r := range []int{0, 1, 7, 15, 16} {
			o.R = r
			checkTaken(t, cfa.Usual(), ops(o), 0)
		}
		for _, r := range []int{math.MinInt, -17, -1, 17, 18, 32, 128, 1 << 32, math.MaxInt} {
			o.R = r
			checkRefused(t, cfa.Usual(), ops(o), 0, api.ErrCfa)
			checkRefused(t, append(cfa.Usual(), o), nil, 0, api.ErrCfa)
			checkWrite(t, ops(o), nil, api.ErrCfa)
		}
	}
}

// TestP1302Numbers: N of each kind that has one, at its edges and beyond.
func TestP1302Numbers(t *testing.T) {
	unsigned, beyond := []int{0, 1, 7, most - 1, most}, []int{math.MinInt, least, -8, -1, most + 1, 1 << 32, math.MaxInt}
	for _, o := range ops(defCfa(7, 0), defOffset(0)) {
		for _, n := range unsigned {
			o.N = n
			checkTaken(t, cfa.Usual(), ops(o), 0)
		}
		for _, n := range beyond {
			o.N = n
			checkRefused(t, cfa.Usual(), ops(o), 0, api.ErrCfa)
			checkWrite(t, ops(o), nil, api.ErrCfa)
		}
	}
	for _, n := range []int{least, least + 8, -16, -8, 0, 8, 16, most - 15, most - 7} {
		checkTaken(t, cfa.Usual(), ops(offset(3, n)), 0)
	}
	for _, n := range []int{math.MinInt, least - 8, least - 1, least + 1, least + 4, -15, -9, -7, -4, -1, 1, 4, 7, 9, 12, most - 8, most - 6, most - 3, most, most + 1, most + 9, math.MaxInt - 7, math.MaxInt} {
		checkRefused(t, cfa.Usual(), ops(offset(3, n)), 0, api.ErrCfa)
		checkWrite(t, ops(offset(3, n)), nil, api.ErrCfa)
	}
	checkTaken(t, cfa.Usual(), ops(advance(0)), 0)
	checkTaken(t, cfa.Usual(), ops(advance(api.MaxBytes)), api.MaxBytes)
	for _, n := range beyond {
		checkRefused(t, cfa.Usual(), ops(advance(n)), api.MaxBytes, api.ErrCfa)
		checkWrite(t, ops(advance(n)), nil, api.ErrCfa)
	}
	// It may be, but no row begins there.
	checkRefused(t, cfa.Usual(), ops(advance(most)), api.MaxBytes, api.ErrCfa)
	checkWrite(t, ops(advance(most)), []byte{4, 255, 255, 255, 127}, api.OK)
}

// TestP1302OtherFields: those that an op has not are 0.
func TestP1302OtherFields(t *testing.T) {
	withoutR := ops(nop(), advance(1), defOffset(8), remember(), recall())
	withoutN := ops(nop(), defRegister(3), restore(3), undefined(3), sameValue(3), remember(), recall())
	for _, wrong := range []int{math.MinInt, -8, -1, 1, 8, 16, math.MaxInt} {
		for _, o := range withoutR {
			checkTaken(t, cfa.Usual(), ops(remember(), o), 20)
			o.R = wrong
			checkRefused(t, cfa.Usual(), ops(remember(), o), 20, api.ErrCfa)
			checkWrite(t, ops(o), nil, api.ErrCfa)
		}
		for _, o := range withoutN {
			checkTaken(t, cfa.Usual(), ops(remember(), o), 20)
			o.N = wrong
			checkRefused(t, cfa.Usual(), ops(remember(), o), 20, api.ErrCfa)
			checkWrite(t, ops(o), nil, api.ErrCfa)
		}
	}
}

// TestP1302Kinds: there are eleven.
func TestP1302Kinds(t *testing.T) {
	for _, kind := range []int{math.MinInt, -11, -1, 11, 12, 100, 256, math.MaxInt} {
		o := cfa.Op{Kind: kind}
		checkRefused(t, cfa.Usual(), ops(o), 20, api.ErrCfa)
		checkRefused(t, append(ops(o), cfa.Usual()...), nil, 20, api.ErrCfa)
		checkRefused(t, cfa.Usual(), ops(advance(1), o, advance(1)), 20, api.ErrCfa)
		checkWrite(t, ops(o), nil, api.ErrCfa)
	}
}

// TestP1302Kept: what is kept last comes back first, and only once.
func TestP1302Kept(t *testing.T) {
	l := ops(
		remember(), defOffset(16), offset(6, -16), advance(1),
		remember(), defCfa(6, 32), undefined(16), advance(1),
		recall(), advance(1), recall(), advance(1),
	)
	inner := saved(usualAt(1, 16), 6, -16)
	outer := gone(saved(at(1, 6, 32), 6, -16), 16)
	inner.At = 0
	back := inner
	back.At = 2
	checkRows(t, cfa.Usual(), l, 10, []cfa.Row{inner, outer, back, usualAt(3, 8), usualAt(4, 8)}, api.OK)
	for _, none := range [][]cfa.Op{
		ops(recall()), ops(advance(1), recall()), ops(recall(), remember()), ops(remember(), recall(), recall()),
		ops(remember(), remember(), recall(), recall(), recall()), append(slices.Clone(l), recall()),
	} {
		checkRefused(t, cfa.Usual(), none, 10, api.ErrCfa)
	}
	// What is still kept at the end is no fault.
	checkRows(t, cfa.Usual(), ops(remember(), remember(), recall()), 10, []cfa.Row{usualAt(0, 8)}, api.OK)
}

// TestP1302ManyKept: 64 at once, not one more; those that are kept no longer do not count.
func TestP1302ManyKept(t *testing.T) {
	kept := slices.Repeat(ops(remember()), 64)
	checkTaken(t, cfa.Usual(), kept, 0)
	checkRefused(t, cfa.Usual(), append(slices.Clone(kept), remember()), 0, api.ErrCfa)
	checkRefused(t, cfa.Usual(), append(slices.Clone(kept), remember(), recall()), 0, api.ErrCfa)
	checkTaken(t, cfa.Usual(), append(slices.Clone(kept), recall(), remember()), 0)
	checkRefused(t, cfa.Usual(), append(slices.Clone(kept), recall(), remember(), remember()), 0, api.ErrCfa)
	checkTaken(t, cfa.Usual(), slices.Repeat(ops(remember(), recall()), 2000), 0)

	var l []cfa.Op
	var want []cfa.Row
	for k := range 64 {
		l = append(l, defOffset(8*k), remember())
	}
	for k := range 64 {
		l = append(l, recall(), advance(1))
		want = append(want, usualAt(k, 8*(63-k)))
	}
	checkRows(t, cfa.Usual(), l, 64, append(want, usualAt(64, 0)), api.OK)
}

// TestP1302Advances: those of 0 begin no row; a row at size, and none above it.
func TestP1302Advances(t *testing.T) {
	l := ops(advance(0), defOffset(16), advance(0), advance(2), advance(0), defOffset(24), advance(0), advance(3), advance(0))
	want := []cfa.Row{usualAt(0, 16), usualAt(2, 24), usualAt(5, 24)}
	checkRows(t, cfa.Usual(), l, 5, want, api.OK)
	checkRows(t, cfa.Usual(), l, 6, want, api.OK)
	checkRefused(t, cfa.Usual(), l, 4, api.ErrCfa)
	checkRows(t, cfa.Usual(), ops(advance(0)), 0, []cfa.Row{usualAt(0, 8)}, api.OK)
	checkRefused(t, cfa.Usual(), ops(advance(1)), 0, api.ErrCfa)
	checkRefused(t, cfa.Usual(), ops(advance(6), advance(most)), 6, api.ErrCfa)
	checkRows(t, cfa.Usual(), ops(advance(api.MaxBytes-1), advance(1), advance(0)), api.MaxBytes, []cfa.Row{usualAt(0, 8), usualAt(api.MaxBytes-1, 8), usualAt(api.MaxBytes, 8)}, api.OK)
	checkRefused(t, cfa.Usual(), ops(advance(api.MaxBytes-1), advance(2)), api.MaxBytes, api.ErrCfa)
	// Two that follow each other are two rows, though nothing changed.
	checkRows(t, cfa.Usual(), ops(advance(1), advance(1)), 2, []cfa.Row{usualAt(0, 8), usualAt(1, 8), usualAt(2, 8)}, api.OK)
}
