package cfa_test

import (
	"math/rand/v2"
	"slices"
	"testing"

	"gangway/api"
	"gangway/cfa"
)

// rightOp: any that may be, with numbers of all lengths.
func rightOp(random *rand.Rand) cfa.Op {
	o := cfa.Op{Kind: random.IntN(11)}
	n := random.IntN(1 << random.IntN(32))
	switch o.Kind {
	case cfa.Advance, cfa.DefOffset:
		o.N = n
	case cfa.DefCfa:
		o.R, o.N = random.IntN(17), n
	case cfa.Offset:
		o.R, o.N = random.IntN(17), n&^7
		if random.IntN(2) == 0 {
			o.N = -o.N
		}
	case cfa.DefRegister, cfa.Restore, cfa.Undefined, cfa.SameValue:
		o.R = random.IntN(17)
	}
	return o
}

// TestP1308ReadOfWrite: it is the ops.
func TestP1308ReadOfWrite(t *testing.T) {
	random := seeded(6)
	for range 20000 {
		var l []cfa.Op
		for range random.IntN(20) {
			l = append(l, rightOp(random))
		}
		checkThereAndBack(t, l)
	}
	for _, n := range []int{0, 1, 62, 63, 64, 65, 254, 255, 256, 257, 65534, 65535, 65536, 65537, 1<<24 - 1, 1 << 24, most} {
		checkThereAndBack(t, ops(advance(n), defOffset(n), defCfa(16, n)))
	}
	for k := range 29 {
		for _, units := range []int{1<<k - 1, 1 << k} {
			checkThereAndBack(t, ops(offset(16, -8*units)))
			if units < 1<<28 {
				checkThereAndBack(t, ops(offset(0, 8*units)))
			}
		}
	}
	for r := range 17 {
		checkThereAndBack(t, ops(defCfa(r, 1), defRegister(r), offset(r, -8), offset(r, 8), restore(r), undefined(r), sameValue(r)))
	}
	checkThereAndBack(t, slices.Repeat(ops(offset(16, most-7)), api.MaxRows))
}

func checkThereAndBack(t *testing.T, l []cfa.Op) {
	t.Helper()
	b, e := cfa.Write(l)
	if e != api.OK {
		t.Errorf("Write of %v: %d", shown(l), e)
	}
	checkRead(t, b, l, api.OK)
}

// TestP1307WrittenAgain: what is read may be written, and reads as the same again.
func TestP1307WrittenAgain(t *testing.T) {
	random := seeded(7)
	for range 20000 {
		b := make([]byte, random.IntN(12))
		for k := range b {
			b[k] = byte(random.IntN(256))
		}
		if l, e := cfa.Read(b); e == api.OK {
			checkThereAndBack(t, l)
		}
	}
}

// TestP1310WhatIsKept: behind a Recall all but the place is as it was ahead of its Remember.
func TestP1310WhatIsKept(t *testing.T) {
	random := seeded(8)
	for range 5000 {
		size := random.IntN(100)
		ahead := wildProgram(random, random.IntN(10), size)
		between := slices.DeleteFunc(wildProgram(random, random.IntN(20), size/2), func(o cfa.Op) bool { return o.Kind >= cfa.Remember })
		before, e := cfa.Rows(cfa.Usual(), ahead, size)
		if e != api.OK {
			continue
		}
		l := slices.Concat(ahead, ops(remember()), between, ops(recall()))
		after, e := cfa.Rows(cfa.Usual(), l, size)
		if e != api.OK {
			continue
		}
		was, is := before[len(before)-1], after[len(after)-1]
		place := was.At
		for _, o := range between {
			if o.Kind == cfa.Advance {
				place += o.N
			}
		}
		was.At = place
		if is != was {
			t.Error(ahead, between, is, was)
		}
	}
}

// TestP1311AsIfToldAnew: a longer program's rows begin with those of the shorter one, but its last one.
func TestP1311AsIfToldAnew(t *testing.T) {
	random := seeded(9)
	count := 0
	for range 5000 {
		size := random.IntN(100)
		one, two := wildProgram(random, random.IntN(16), size), wildProgram(random, random.IntN(16), size)
		first, e := cfa.Rows(cfa.Usual(), one, size)
		if e != api.OK {
			continue
		}
		both, e := cfa.Rows(cfa.Usual(), slices.Concat(one, two), size)
		if e != api.OK {
			continue
		}
		count++
		head := first[:len(first)-1]
		if len(both) < len(first) || !slices.Equal(both[:len(head)], head) || both[len(head)].At != first[len(head)].At {
			t.Error(one, two, first, both)
		}
	}
	if count < 1000 {
		t.Error("too few", count)
	}
}

// TestP1309RowsRise: the first one at 0, none above size.
func TestP1309RowsRise(t *testing.T) {
	random := seeded(10)
	for range 5000 {
		size := random.IntN(80)
		if rows, e := cfa.Rows(cfa.Usual(), wildProgram(random, random.IntN(40), size), size); e == api.OK {
			checkRising(t, rows, size)
		}
	}
}
