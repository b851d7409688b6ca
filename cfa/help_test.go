package cfa_test

import (
	"math/rand/v2"
	"slices"
	"testing"

	"gangway/api"
	"gangway/cfa"
)

func seeded(n uint64) *rand.Rand { return rand.New(rand.NewPCG(13, n)) }

func pick[T any](random *rand.Rand, l []T) T { return l[random.IntN(len(l))] }

func nop() cfa.Op              { return cfa.Op{Kind: cfa.Nop} }
func advance(n int) cfa.Op     { return cfa.Op{Kind: cfa.Advance, N: n} }
func defCfa(r, n int) cfa.Op   { return cfa.Op{Kind: cfa.DefCfa, R: r, N: n} }
func defOffset(n int) cfa.Op   { return cfa.Op{Kind: cfa.DefOffset, N: n} }
func defRegister(r int) cfa.Op { return cfa.Op{Kind: cfa.DefRegister, R: r} }
func offset(r, n int) cfa.Op   { return cfa.Op{Kind: cfa.Offset, R: r, N: n} }
func restore(r int) cfa.Op     { return cfa.Op{Kind: cfa.Restore, R: r} }
func undefined(r int) cfa.Op   { return cfa.Op{Kind: cfa.Undefined, R: r} }
func sameValue(r int) cfa.Op   { return cfa.Op{Kind: cfa.SameValue, R: r} }
func remember() cfa.Op         { return cfa.Op{Kind: cfa.Remember} }
func recall() cfa.Op           { return cfa.Op{Kind: cfa.Recall} }

func ops(l ...cfa.Op) []cfa.Op { return l }

// at is a row without rules.
func at(place, r, n int) cfa.Row { return cfa.Row{At: place, R: r, N: n} }

func saved(row cfa.Row, r, n int) cfa.Row {
	row.Rules[r] = cfa.Rule{Kind: cfa.Saved, N: n}
	return row
}

func gone(row cfa.Row, r int) cfa.Row {
	row.Rules[r] = cfa.Rule{Kind: cfa.Gone}
	return row
}

func same(row cfa.Row, r int) cfa.Row {
	row.Rules[r] = cfa.Rule{}
	return row
}

// usualAt is a row that a function begins with, but for its place and N.
func usualAt(place, n int) cfa.Row { return saved(at(place, 7, n), 16, -8) }

func event(place int, name string, args ...int) cfa.Event {
	return cfa.Event{At: place, Name: name, Args: args}
}

func events(l ...cfa.Event) []cfa.Event { return l }

// shown is as much of a long list as can be read.
func shown[T any](l []T) []T { return l[:min(len(l), 12)] }

// checkRows holds Check and Rows to one answer.
func checkRows(t *testing.T, initial, l []cfa.Op, size int, want []cfa.Row, wantE api.Errno) {
	t.Helper()
	rows, e := cfa.Rows(initial, l, size)
	if e != wantE || !slices.Equal(rows, want) {
		t.Errorf("Rows of %v, %v, %d: %v, %d; want %v, %d", shown(initial), shown(l), size, shown(rows), e, shown(want), wantE)
	}
	if e := cfa.Check(initial, l, size); e != wantE {
		t.Errorf("Check of %v, %v, %d: %d; want %d", shown(initial), shown(l), size, e, wantE)
	}
}

// checkRefused: there is no table.
func checkRefused(t *testing.T, initial, l []cfa.Op, size int, wantE api.Errno) {
	t.Helper()
	checkRows(t, initial, l, size, nil, wantE)
}

// checkTaken: there is one, whichever.
func checkTaken(t *testing.T, initial, l []cfa.Op, size int) {
	t.Helper()
	if e := cfa.Check(initial, l, size); e != api.OK {
		t.Errorf("Check of %v, %v, %d: %d", shown(initial), shown(l), size, e)
	}
	if rows, e := cfa.Rows(initial, l, size); e != api.OK || len(rows) == 0 {
		t.Errorf("Rows of %v, %v, %d: %v, %d", shown(initial), shown(l), size, shown(rows), e)
	}
}

func checkFind(t *testing.T, rows []cfa.Row, place int, want cfa.Row, wantOk bool) {
	t.Helper()
	if row, ok := cfa.Find(rows, place); row != want || ok != wantOk {
		t.Errorf("Find of %v, %d: %v, %v; want %v, %v", shown(rows), place, row, ok, want, wantOk)
	}
}

func checkCompile(t *testing.T, l []cfa.Event, size int, want []cfa.Op, wantE api.Errno) {
	t.Helper()
	if got, e := cfa.Compile(l, size); e != wantE || !slices.Equal(got, want) {
		t.Errorf("Compile of %v, %d: %v, %d; want %v, %d", shown(l), size, shown(got), e, shown(want), wantE)
	}
}

func checkWrite(t *testing.T, l []cfa.Op, want []byte, wantE api.Errno) {
	t.Helper()
	if b, e := cfa.Write(l); e != wantE || !slices.Equal(b, want) {
		t.Errorf("Write of %v: %v, %d; want %v, %d", shown(l), shown(b), e, shown(want), wantE)
	}
}

func checkRead(t *testing.T, b []byte, want []cfa.Op, wantE api.Errno) {
	t.Helper()
	if l, e := cfa.Read(b); e != wantE || !slices.Equal(l, want) {
		t.Errorf("Read of %v: %v, %d; want %v, %d", shown(b), shown(l), e, shown(want), wantE)
	}
}
