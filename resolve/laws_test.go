package resolve_test

import (
	"math/rand/v2"
	"slices"
	"testing"

	"gangway/api"
	"gangway/resolve"
)

// rightObjects are some that may be.
func rightObjects(random *rand.Rand, most int) []api.File {
	var l []api.File
	for range random.IntN(most + 1) {
		f := anyObject(random, 3)
		for resolve.Check(files(f)) != api.OK {
			f = anyObject(random, 3)
		}
		l = append(l, f)
	}
	return l
}

// agreeing are some that agree.
func agreeing(random *rand.Rand, most int) []api.File {
	for {
		l := rightObjects(random, most)
		if len(resolve.Faults(l)) == 0 {
			return l
		}
	}
}

// TestP1806JustThen: All answers OK just if nothing is wrong.
func TestP1806JustThen(t *testing.T) {
	random := seeded(5)
	seen := map[bool]int{}
	for range 6000 {
		l := rightObjects(random, 4)
		agree := true
		for _, n := range symbolNames(l) {
			s := named(l, n)
			agree = agree && count(s, isStrong) < 2 && (count(s, isWanted) == 0 || count(s, isDefined) > 0) && (count(s, isTls) == 0 || count(s, isOther) == 0)
		}
		for _, n := range sectionNames(l) {
			agree = agree && !areUnlike(l, n)
		}
		entries, f := resolve.All(l)
		if (f.E == api.OK) != agree || (f.E == api.OK) != (len(resolve.Faults(l)) == 0) || agree && len(entries) != len(symbolNames(l)) {
			t.Fatalf("All(%s): %s, %s; they agree: %v", short(l), short(entries), short(f), agree)
		}
		seen[agree]++
	}
	if seen[true] < 1000 || seen[false] < 1000 {
		t.Error(seen)
	}
}

// turned: the same objects in another order, and where each one came from.
func turned(random *rand.Rand, l []api.File) ([]api.File, []int) {
	order := random.Perm(len(l))
	var other []api.File
	for _, k := range order {
		other = append(other, l[k])
	}
	return other, order
}

func TestP1807FaultsOfOtherOrders(t *testing.T) {
	random := seeded(6)
	for range 3000 {
		l := rightObjects(random, 5)
		other, _ := turned(random, l)
		if a, b := resolve.Faults(l), resolve.Faults(other); !slices.Equal(a, b) {
			t.Fatalf("Faults(%s): %s; in another order %s", short(l), short(a), short(b))
		}
	}
}

func TestP1807MeaningsOfOtherOrders(t *testing.T) {
	random := seeded(7)
	strongOnes := 0
	for range 1500 {
		l := agreeing(random, 5)
		other, order := turned(random, l)
		entries, turnedEntries := entriesOf(t, l), entriesOf(t, other)
		if len(entries) != len(turnedEntries) {
			t.Fatalf("%s: %s; in another order %s", short(l), short(entries), short(turnedEntries))
		}
		for k, x := range turnedEntries {
			if x.Object >= 0 {
				x.Object = order[x.Object]
			}
			isSame := x == entries[k]
			isWeak := x.Bind == api.Weak && entries[k].Bind == api.Weak && x.Name == entries[k].Name && (x.Object < 0) == (entries[k].Object < 0)
			if !isSame && !isWeak {
				t.Fatalf("%s: %s; in another order %s", short(l), short(entries[k]), short(x))
			}
			if x.Bind == api.Global {
				strongOnes++
			}
		}
	}
	if strongOnes < 500 {
		t.Error(strongOnes)
	}
}

// TestP1808OneMore: it takes no strong meaning away, and leaves undefined no more names than its own.
func TestP1808OneMore(t *testing.T) {
	random := seeded(8)
	for range 3000 {
		l := rightObjects(random, 4)
		more := rightObjects(random, 1)
		at := random.IntN(len(l) + 1)
		all := slices.Insert(slices.Clone(l), at, more...)
		had := resolve.Faults(l)
		for _, f := range resolve.Faults(all) {
			if f.E == api.ErrUndefined && !slices.Contains(had, f) && !slices.Contains(symbolNames(more), f.Name) {
				t.Fatalf("%s and at %d %s: %s", short(l), at, short(more), short(f))
			}
		}
		entries, f := resolve.All(l)
		otherEntries, g := resolve.All(all)
		if f.E != api.OK || g.E != api.OK {
			continue
		}
		for _, x := range entries {
			other, ok := resolve.Find(otherEntries, x.Name)
			if x.Object >= at {
				x.Object += len(more)
			}
			if !ok || x.Bind == api.Global && other != x {
				t.Fatalf("%s and at %d %s: %s, %s", short(l), at, short(more), short(x), short(other))
			}
		}
	}
}

// TestP1809WeakBeside: a weak definition beside a strong one changes nothing, wherever it stands.
func TestP1809WeakBeside(t *testing.T) {
	random := seeded(9)
	changed := 0
	for range 1500 {
		l := agreeing(random, 4)
		entries := entriesOf(t, l)
		for _, x := range entries {
			if x.Bind != api.Global {
				continue
			}
			s := symbol(x.Name, "*", random.IntN(9), 0, api.Weak, api.NoType)
			at := random.IntN(len(l) + 1)
			all := slices.Insert(slices.Clone(l), at, api.File{Symbols: []api.Symbol{s}})
			want := slices.Clone(entries)
			for k := range want {
				if want[k].Object >= at {
					want[k].Object++
				}
			}
			checkAll(t, all, want...)
			changed++
		}
	}
	if changed < 500 {
		t.Error(changed)
	}
}

// TestP1809WeaklyWanted: a name that is only weakly referred to, by however many, means nothing and is no fault.
func TestP1809WeaklyWanted(t *testing.T) {
	random := seeded(10)
	for range 300 {
		l := agreeing(random, 4)
		want := append(entriesOf(t, l), nothing("zz"))
		slices.SortFunc(want, func(a, b resolve.Entry) int {
			if a.Name < b.Name {
				return -1
			}
			return 1
		})
		for range 1 + random.IntN(3) {
			l = append(l, api.File{Symbols: []api.Symbol{may("zz")}})
		}
		checkAll(t, l, want...)
		checkLook(t, l, want, len(l)-1, "zz", -1, -1, api.OK)
		checkFaults(t, append(l, api.File{Symbols: []api.Symbol{wants("zz")}}), fault(api.ErrUndefined, "zz"))
	}
}
