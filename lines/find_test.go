package lines_test

import (
	"math"
	"testing"

	"gangway/lines"
)

func TestP1505Find(t *testing.T) {
	l := []lines.Program{example()}
	checkFind(t, l, 4096, "a.s", row(0, 1, 3, 0))
	checkFind(t, l, 4097, "a.s", row(1, 1, 4, 0))
	checkFind(t, l, 4098, "a.s", row(1, 1, 4, 0))
	checkFind(t, l, 4100, "a.s", row(1, 1, 4, 0))
	for _, addr := range []int{4101, 4095, 0, -1, 1, 2, 5, math.MinInt, math.MaxInt, 4096 + 1<<32} {
		checkNone(t, l, addr)
	}
	checkNone(t, nil, 0)
	checkNone(t, []lines.Program{}, 0)
	checkNone(t, []lines.Program{{}, program("a")}, 0)
}

// TestP1505Rows: the last one that is not behind the address; several at one place; none yet.
func TestP1505Rows(t *testing.T) {
	l := []lines.Program{program("a b c", seq(100, 10, row(2, 1, 1, 0), row(2, 2, 2, 5), row(5, 3, 3, 0), row(10, 1, 4, 0)))}
	checkNone(t, l, 100)
	checkNone(t, l, 101)
	checkFind(t, l, 102, "b", row(2, 2, 2, 5))
	checkFind(t, l, 104, "b", row(2, 2, 2, 5))
	checkFind(t, l, 105, "c", row(5, 3, 3, 0))
	checkFind(t, l, 109, "c", row(5, 3, 3, 0))
	checkNone(t, l, 110)
}

// TestP1505First: of several sequences that have the address the first one with a row there.
func TestP1505First(t *testing.T) {
	late := seq(0, 10, row(5, 1, 1, 0))
	early := seq(0, 10, row(0, 1, 2, 0))
	other := program("b", seq(0, 20, row(0, 1, 3, 0)))
	l := []lines.Program{program("a", late, early), other}
	checkFind(t, l, 4, "a", row(0, 1, 2, 0))
	checkFind(t, l, 5, "a", row(5, 1, 1, 0))
	checkFind(t, l, 10, "b", row(0, 1, 3, 0))
	l = []lines.Program{other, l[0]}
	checkFind(t, l, 5, "b", row(0, 1, 3, 0))
	l = []lines.Program{program("a", late), {}, other}
	checkFind(t, l, 4, "b", row(0, 1, 3, 0))
	// One without bytes, or with less than none, has no address.
	l = []lines.Program{program("a", seq(5, 0, row(0, 1, 1, 0)), seq(5, -1, row(-9, 1, 1, 0)), seq(5, math.MinInt, row(-9, 1, 1, 0)), seq(5, 1, row(0, 1, 9, 0)))}
	checkNone(t, l, 4)
	checkFind(t, l, 5, "a", row(0, 1, 9, 0))
	checkNone(t, l, 6)
}

// TestP1505AsTheyStand: programs that may not be.
func TestP1505AsTheyStand(t *testing.T) {
	// Rows in any order: the last one that stands there, not the nearest.
	l := []lines.Program{program("a", seq(0, 100, row(50, 1, 1, 0), row(10, 1, 2, 0), row(60, 1, 3, 0)))}
	checkNone(t, l, 9)
	checkFind(t, l, 10, "a", row(10, 1, 2, 0))
	checkFind(t, l, 55, "a", row(10, 1, 2, 0))
	checkFind(t, l, 60, "a", row(60, 1, 3, 0))
	for _, file := range []int{0, -1, 2, 256, math.MinInt, math.MinInt + 1, math.MaxInt} {
		r := row(0, file, -7, 1<<40)
		checkFind(t, []lines.Program{program("a", seq(0, 1, r))}, 0, "", r)
	}
	checkFind(t, []lines.Program{program("", seq(0, 1, row(0, 1, 1, 0)))}, 0, "", row(0, 1, 1, 0))
	checkFind(t, []lines.Program{{Files: []string{"", "\x00"}, Seqs: []lines.Seq{seq(0, 1, row(-5, 2, 1, 0))}}}, 0, "\x00", row(-5, 2, 1, 0))
	// A Start and a Size from one end to the other.
	low := []lines.Program{program("a", seq(math.MinInt, math.MaxInt, row(math.MinInt, 1, 1, 0), row(math.MaxInt-1, 1, 2, 0)))}
	checkFind(t, low, math.MinInt, "a", row(math.MinInt, 1, 1, 0))
	checkFind(t, low, -3, "a", row(math.MinInt, 1, 1, 0))
	checkFind(t, low, -2, "a", row(math.MaxInt-1, 1, 2, 0))
	for _, addr := range []int{-1, 0, 1, math.MaxInt} {
		checkNone(t, low, addr)
	}
	high := []lines.Program{program("a", seq(math.MaxInt-3, math.MaxInt, row(0, 1, 1, 0), row(3, 1, 2, 0)))}
	checkFind(t, high, math.MaxInt-1, "a", row(0, 1, 1, 0))
	checkFind(t, high, math.MaxInt, "a", row(3, 1, 2, 0))
	for _, addr := range []int{math.MinInt, -1, 0, math.MaxInt - 4} {
		checkNone(t, high, addr)
	}
	checkFind(t, []lines.Program{program("a", seq(-5, 6, row(0, 1, 1, 0)))}, 0, "a", row(0, 1, 1, 0))
	checkNone(t, []lines.Program{program("a", seq(-5, 5, row(0, 1, 1, 0)))}, 0)
}

func TestP1505Model(t *testing.T) {
	random := seeded(5)
	found := 0
	few := []int{-3, -2, -1, 0, 1, 2, 3, 4, 5, 6, 7, 8, 9, 12, math.MinInt, math.MinInt + 3, math.MaxInt - 3, math.MaxInt}
	for range 100000 {
		var l []lines.Program
		for range random.IntN(4) {
			p := lines.Program{Files: names(random.IntN(3))}
			for range random.IntN(4) {
				s := seq(pick(random, few), pick(random, few))
				for range random.IntN(4) {
					s.Rows = append(s.Rows, row(pick(random, few), pick(random, few), random.IntN(9), 0))
				}
				p.Seqs = append(p.Seqs, s)
			}
			l = append(l, p)
		}
		addr := pick(random, few)
		file, r, ok := modelFind(l, addr)
		if !ok {
			checkNone(t, l, addr)
			continue
		}
		found++
		checkFind(t, l, addr, file, r)
	}
	if found < 10000 {
		t.Error(found)
	}
}
