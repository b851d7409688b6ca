package cfa_test

import (
	"math"
	"testing"

	"gangway/api"
	"gangway/cfa"
)

// TestP1303Find: below 0, at, between and behind rows.
func TestP1303Find(t *testing.T) {
	rows := []cfa.Row{usualAt(0, 8), usualAt(1, 16), usualAt(4, 24)}
	for place, want := range []int{0, 1, 1, 1, 2, 2, 2} {
		checkFind(t, rows, place, rows[want], true)
	}
	checkFind(t, rows, api.MaxBytes+1, rows[2], true)
	checkFind(t, rows, math.MaxInt, rows[2], true)
	for _, place := range []int{-1, -2, math.MinInt} {
		checkFind(t, rows, place, cfa.Row{}, false)
	}
}

// TestP1303NoRow: there are none, or the first one is behind the place.
func TestP1303NoRow(t *testing.T) {
	for _, place := range []int{math.MinInt, -1, 0, 1, math.MaxInt} {
		checkFind(t, nil, place, cfa.Row{}, false)
		checkFind(t, []cfa.Row{}, place, cfa.Row{}, false)
	}
	rows := []cfa.Row{usualAt(3, 8), usualAt(0, 16), usualAt(5, 24)}
	for place := range 3 {
		checkFind(t, rows, place, cfa.Row{}, false)
	}
}

// TestP1303AsTheyStand: rows that do not rise, rows below 0, rows at one place.
func TestP1303AsTheyStand(t *testing.T) {
	falling := []cfa.Row{usualAt(3, 8), usualAt(0, 16), usualAt(5, 24), usualAt(4, 32), usualAt(9, 40), usualAt(2, 48)}
	for place, want := range map[int]int{3: 1, 4: 1, 5: 3, 8: 3, 9: 5, 100: 5} {
		checkFind(t, falling, place, falling[want], true)
	}
	below := []cfa.Row{usualAt(-5, 8), usualAt(-1, 16), usualAt(2, 24)}
	checkFind(t, below, -1, cfa.Row{}, false)
	checkFind(t, below, -5, cfa.Row{}, false)
	checkFind(t, below, 0, below[1], true)
	checkFind(t, below, 2, below[2], true)
	lowest := []cfa.Row{usualAt(math.MinInt, 8), usualAt(math.MaxInt, 16)}
	checkFind(t, lowest, math.MaxInt-1, lowest[0], true)
	checkFind(t, lowest, math.MaxInt, lowest[1], true)
	twice := []cfa.Row{usualAt(0, 8), usualAt(2, 16), usualAt(2, 24), usualAt(3, 32)}
	checkFind(t, twice, 2, twice[2], true)
}

// TestP1303AnyRow: whatever it holds, it is answered whole.
func TestP1303AnyRow(t *testing.T) {
	row := cfa.Row{At: 0, R: -7, N: math.MinInt}
	for k := range row.Rules {
		row.Rules[k] = cfa.Rule{Kind: k - 3, N: math.MaxInt - k}
	}
	checkFind(t, []cfa.Row{row}, 0, row, true)
	checkFind(t, []cfa.Row{{}}, 0, cfa.Row{}, true)
}

// TestP1309FindOfATable: of each place the row that was begun last at or ahead of it.
func TestP1309FindOfATable(t *testing.T) {
	random := seeded(1)
	for range 300 {
		size := random.IntN(60)
		l := wildProgram(random, random.IntN(30), size)
		rows, e := cfa.Rows(cfa.Usual(), l, size)
		if e != api.OK {
			continue
		}
		checkRising(t, rows, size)
		for place := -1; place <= size+2; place++ {
			var want cfa.Row
			found := false
			for _, row := range rows {
				if place >= 0 && row.At <= place {
					want, found = row, true
				}
			}
			checkFind(t, rows, place, want, found)
		}
	}
}

func checkRising(t *testing.T, rows []cfa.Row, size int) {
	t.Helper()
	if len(rows) == 0 || rows[0].At != 0 || rows[len(rows)-1].At > size {
		t.Error(shown(rows), size)
	}
	for k := 1; k < len(rows); k++ {
		if rows[k].At <= rows[k-1].At {
			t.Error(shown(rows), k)
		}
	}
}
