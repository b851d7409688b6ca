package lines_test

import (
	"slices"
	"testing"

	"gangway/api"
	"gangway/lines"
)

func TestP1506Back(t *testing.T) {
	random := seeded(6)
	for range 20000 {
		p := anyProgram(random)
		b, _ := written(t, p)
		checkRead(t, b, p)
	}
}

// TestP1506Steps: all steps near the edges.
func TestP1506Steps(t *testing.T) {
	for a := range 60 {
		var s lines.Seq
		last := row(0, 1, 1000, 0)
		for l := -30; l <= 30; l++ {
			last.At += a
			last.Line += l
			s.Rows = append(s.Rows, last)
		}
		s.Size = last.At
		p := program("a", s)
		b, _ := written(t, p)
		checkRead(t, b, p)
	}
}

// TestP1506Most: as many files, sequences and rows as may be.
func TestP1506Most(t *testing.T) {
	p := lines.Program{Files: names(mostFiles)}
	for k := range mostSeqs {
		s := seq(mostStart-k, mostRows)
		for i := range mostRows {
			s.Rows = append(s.Rows, row(i, 1+(i/100+k)%255, 7+i, k%5))
		}
		p.Seqs = append(p.Seqs, s)
	}
	b, _ := written(t, p)
	if again, e := lines.Read(b); e != api.OK || !same(again, p) {
		t.Error(e)
	}
}

func TestP1506Units(t *testing.T) {
	random := seeded(7)
	for range 3000 {
		var all []byte
		var l []lines.Program
		for range random.IntN(api.MaxObjects + 1) {
			p := anyProgram(random)
			b, _ := written(t, p)
			all, l = append(all, b...), append(l, p)
		}
		checkUnits(t, all, l, api.OK)
	}
}

func TestP1507ByTheMachine(t *testing.T) {
	random := seeded(8)
	found := 0
	for range 10000 {
		p := anyProgram(random)
		b, _ := written(t, p)
		again, e := lines.Read(b)
		if e != api.OK {
			t.Fatal(e)
		}
		for _, s := range p.Seqs {
			addrs := []int{s.Start - 1, s.Start, s.Start + s.Size - 1, s.Start + s.Size}
			for _, r := range s.Rows {
				addrs = append(addrs, s.Start+r.At-1, s.Start+r.At, s.Start+r.At+1)
			}
			for _, addr := range addrs {
				file, r, ok := modelFind([]lines.Program{p}, addr)
				if !ok {
					checkNone(t, []lines.Program{again}, addr)
					checkNone(t, []lines.Program{p}, addr)
					continue
				}
				found++
				checkFind(t, []lines.Program{again}, addr, file, r)
				checkFind(t, []lines.Program{p}, addr, file, r)
			}
		}
	}
	if found < 50000 {
		t.Error(found)
	}
}

func TestP1508Moved(t *testing.T) {
	random := seeded(9)
	done := 0
	for range 20000 {
		p := anyProgram(random)
		b, at := written(t, p)
		for k, place := range at {
			start := pick(random, []int{0, 1, 255, 65536, 1<<40 + 7, mostStart - 1, mostStart})
			moved := slices.Clone(b)
			copy(moved[place:], number(start, 8))
			want := clone(p)
			want.Seqs[k].Start = start
			checkRead(t, moved, want)
			done++
		}
		if len(at) > 0 {
			copy(b[pick(random, at):], number(pick(random, []int{mostStart + 1, -1, -1 << 63}), 8))
			checkUnread(t, b, api.ErrLine)
		}
	}
	if done < 10000 {
		t.Error(done)
	}
}
