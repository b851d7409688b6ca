package relax_test

import (
	"bytes"
	"math/rand/v2"
	"slices"
	"testing"

	"gangway/api"
	"gangway/relax"
)

func freeJumps(l []relax.Item) []int {
	var free []int
	for k := range l {
		if modelIsFree(l, k) {
			free = append(free, k)
		}
	}
	return free
}

// everyWay calls f with each way to have free jumps long.
func everyWay(l []relax.Item, f func(long []bool)) {
	free := freeJumps(l)
	for way := range 1 << len(free) {
		long := make([]bool, len(l))
		for n, k := range free {
			long[k] = way>>n&1 == 1
		}
		f(long)
	}
}

func allReach(l []relax.Item, long []bool) bool {
	for _, k := range freeJumps(l) {
		if !long[k] && !modelReaches(l, k, long) {
			return false
		}
	}
	return true
}

// hasAll: are those of x among long?
func hasAll(long, x []bool) bool {
	for k := range x {
		if x[k] && !long[k] {
			return false
		}
	}
	return true
}

func laid(t *testing.T, l []relax.Item) relax.Laid {
	t.Helper()
	x, e := relax.Layout(l)
	if e != api.OK {
		t.Fatalf("Layout of %v: %d", shown(l), e)
	}
	return x
}

func written(t *testing.T, l []relax.Item) ([]byte, []api.Reloc, []relax.Label) {
	t.Helper()
	b, relocs, labels, e := relax.Bytes(l)
	if e != api.OK {
		t.Fatalf("Bytes of %v: %d", shown(l), e)
	}
	return b, relocs, labels
}

// anyMany are ten jumps at most, and so much else.
func anyMany(random *rand.Rand, aligned bool) []relax.Item {
	for {
		if l := anyTight(random, 12, aligned); len(freeJumps(l)) <= 10 {
			return l
		}
	}
}

// TestP1604Least: every way in which all short jumps reach has the long ones of Layout, whose own way is one of these.
func TestP1604Least(t *testing.T) {
	random := seeded(4)
	ways, more := 0, 0
	const lists = 3000
	for range lists {
		l := anyMany(random, false)
		x := laid(t, l)
		if !allReach(l, x.Long) {
			t.Fatal("some jump does not reach", l, x)
		}
		everyWay(l, func(long []bool) {
			if !allReach(l, long) {
				return
			}
			ways++
			size := modelPlace(l, len(l), long)
			if !hasAll(long, x.Long) || size < x.Size || size == x.Size && !slices.Equal(long, x.Long) {
				t.Fatal("not the least", l, x, long, size)
			}
			if size > x.Size {
				more++
			}
		})
	}
	if ways-more != lists || more < 5000 {
		t.Error("the lists are too plain:", ways, more)
	}
}

// TestP1605Reach: by what Layout answers, and by the bytes.
func TestP1605Reach(t *testing.T) {
	random := seeded(5)
	short, long := 0, 0
	for range 3000 {
		l := anyTight(random, 24, true)
		x := laid(t, l)
		b, _, _ := written(t, l)
		end := append(slices.Clone(x.At), x.Size)
		for _, k := range freeJumps(l) {
			way := x.At[modelMark(l, l[k].Inst.To.Name)] - end[k+1]
			if x.Long[k] {
				long++
				continue
			}
			short++
			if way < -128 || way > 127 || end[k+1]-end[k] != 2 || int(int8(b[end[k]+1])) != way {
				t.Fatal("it does not reach", k, way, l, x)
			}
		}
	}
	if short < 3000 || long < 3000 {
		t.Error("the lists are too plain:", short, long)
	}
}

// TestP1605Long: a long jump did not reach in the round in which it became long; with alignments, too.
func TestP1605Long(t *testing.T) {
	random := seeded(6)
	for range 2000 {
		l := anyTight(random, 20, true)
		x := laid(t, l)
		long := make([]bool, len(l))
		for range x.Rounds {
			after := slices.Clone(long)
			for _, k := range freeJumps(l) {
				after[k] = long[k] || x.Long[k] && !modelReaches(l, k, long)
			}
			long = after
		}
		if !slices.Equal(long, x.Long) {
			t.Fatal("some jump reached, and is long", l, x, long)
		}
	}
}

// TestP1606Pieces: what stands from an item's place to the next one's is what it has alone.
func TestP1606Pieces(t *testing.T) {
	random := seeded(7)
	for range 2000 {
		l := anyTight(random, 20, true)
		x := laid(t, l)
		b, _, _ := written(t, l)
		if len(b) != x.Size {
			t.Fatal("not so many bytes", l, x, len(b))
		}
		end := append(slices.Clone(x.At), x.Size)
		for k, i := range l {
			got := b[end[k]:end[k+1]]
			switch {
			case i.Kind == relax.Code && (modelNear(l, i.Inst.To) || modelNear(l, i.Inst.From)):
				continue
			case i.Kind == relax.Align:
				if len(got) >= i.N || end[k+1]%i.N != 0 || !bytes.Equal(got, bytes.Repeat([]byte{i.Fill}, len(got))) {
					t.Fatal(k, got, l)
				}
			default:
				if want, _, _ := written(t, []relax.Item{i}); !bytes.Equal(got, want) {
					t.Fatal(k, got, want, l)
				}
			}
		}
	}
}

// TestP1606OtherBytes: another Raw or Space of the same size, and another Fill, change their own bytes alone.
func TestP1606OtherBytes(t *testing.T) {
	random := seeded(8)
	for range 1000 {
		l := anyTight(random, 16, true)
		x := laid(t, l)
		end := append(slices.Clone(x.At), x.Size)
		before, relocs, labels := written(t, l)
		for k, i := range l {
			other := clone(l)
			switch i.Kind {
			case relax.Raw:
				other[k].Data = bytes.Repeat([]byte{byte(random.Uint32())}, len(i.Data))
			case relax.Space, relax.Align:
				other[k].Fill++
			default:
				continue
			}
			if !sameLaid(laid(t, other), x) {
				t.Fatal("laid out in another way", k, l)
			}
			after, relocs2, labels2 := written(t, other)
			if !bytes.Equal(before[:end[k]], after[:end[k]]) || !bytes.Equal(before[end[k+1]:], after[end[k+1]:]) || !slices.Equal(relocs, relocs2) || !slices.Equal(labels, labels2) {
				t.Fatal("others have changed", k, l)
			}
		}
	}
}

// TestP1607Rounds: no more than one for each free jump and one.
func TestP1607Rounds(t *testing.T) {
	random := seeded(9)
	for range 3000 {
		l := anyTight(random, 24, true)
		if x := laid(t, l); x.Rounds < 1 || x.Rounds > len(freeJumps(l))+1 {
			t.Fatal(x.Rounds, l)
		}
	}
	// And there are lists with just so many.
	for n := range 200 {
		if x := laid(t, chain(n)); x.Rounds != n+1 || x.Size != 130*n+3*min(n, 1) {
			t.Error(n, x.Rounds, x.Size)
		}
	}
}

// renamed has other names instead of the labels, in the Marks and in operands of all Mods.
func renamed(l []relax.Item, other func(string) string) []relax.Item {
	after := clone(l)
	for k, i := range l {
		if i.Kind == relax.Mark {
			after[k].Name = other(i.Name)
		}
		for n, o := range []api.Operand{i.Inst.To, i.Inst.From} {
			if o.Name != "" && modelMark(l, o.Name) >= 0 {
				[]*api.Operand{&after[k].Inst.To, &after[k].Inst.From}[n].Name = other(o.Name)
			}
		}
	}
	return after
}

// TestP1608Names: other names of labels, in another order, change nothing but names; nor do changed ones.
func TestP1608Names(t *testing.T) {
	random := seeded(10)
	for range 2000 {
		l := anyTight(random, 20, true)
		names := anyNames()
		random.Shuffle(len(names), func(x, y int) { names[x], names[y] = names[y], names[x] })
		for _, other := range []func(string) string{
			func(s string) string { return "zz" + s },
			func(s string) string { return "." + s + "." },
			func(s string) string { return labelName(slices.Index(names, s)) },
		} {
			after := renamed(l, other)
			if !sameLaid(laid(t, l), laid(t, after)) {
				t.Fatal("laid out in another way", l, after)
			}
			b, relocs, labels := written(t, l)
			b2, relocs2, labels2 := written(t, after)
			for k, r := range relocs {
				if modelMark(l, r.Symbol) >= 0 {
					relocs[k].Symbol = other(r.Symbol)
				}
			}
			for k, a := range labels {
				labels[k].Name = other(a.Name)
			}
			if !bytes.Equal(b, b2) || !slices.Equal(relocs, relocs2) || !slices.Equal(labels, labels2) {
				t.Fatal("other bytes", l, after)
			}
		}
	}
}

// TestP1608Changed: labels that change their names with one another.
func TestP1608Changed(t *testing.T) {
	text := "jmp a; b: call b; leaq a+1(%rip), %rax; a: jmp b; .zero 120; jne a"
	swapped := "jmp b; a: call a; leaq b+1(%rip), %rax; b: jmp a; .zero 120; jne b"
	b, relocs, labels := written(t, items(text))
	b2, relocs2, labels2 := written(t, items(swapped))
	if !bytes.Equal(b, b2) || len(relocs)+len(relocs2) != 0 || labels[0].Name != "b" || labels2[0].Name != "a" || labels[0].At != labels2[0].At {
		t.Error(b, b2, labels, labels2)
	}
}
