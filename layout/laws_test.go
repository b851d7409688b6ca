package layout_test

import (
	"math/rand/v2"
	"slices"
	"testing"

	"gangway/api"
	"gangway/layout"
)

// takenObjects are some that Place takes.
func takenObjects(random *rand.Rand, most int) []api.File {
	for {
		var l []api.File
		for range random.IntN(most + 1) {
			l = append(l, anyObject(random, 1))
		}
		if _, e := layout.Place(l); e == api.OK {
			return l
		}
	}
}

// stretch: addresses from one up to ahead of another.
type stretch struct{ from, to int }

func areApart(l []stretch) bool {
	for i, a := range l {
		for _, b := range l[:i] {
			if a.from < b.to && b.from < a.to {
				return false
			}
		}
	}
	return true
}

func TestP1908OutputsApart(t *testing.T) {
	random := seeded(3)
	for range 800 {
		m := placed(t, takenObjects(random, 5))
		var all []stretch
		for _, o := range m.Outputs {
			if o.Size > 0 {
				all = append(all, stretch{o.Addr, o.Addr + o.Size})
			}
		}
		rising := slices.IsSortedFunc(all, func(a, b stretch) int { return a.from - b.from })
		if !rising || !areApart(all) || len(all) > 0 && (all[0].from < 4096 || all[len(all)-1].to > m.End) {
			t.Fatal(short(m))
		}
	}
}

func TestP1908SectionsApart(t *testing.T) {
	random := seeded(4)
	laid := 0
	for range 800 {
		l := takenObjects(random, 5)
		m := placed(t, l)
		var all []stretch
		for i, f := range l {
			if len(m.At[i]) != len(f.Sections) {
				t.Fatal(short(l), short(m.At))
			}
			for k, s := range f.Sections {
				at := m.At[i][k]
				if s.Flags&api.Alloc == 0 {
					if at != -1 {
						t.Fatal(short(s), at)
					}
					continue
				}
				laid++
				o, ok := layout.Named(m, s.Name)
				if !ok || at < o.Addr || at+s.Size > o.Addr+o.Size || at%s.Align != 0 || o.Addr%o.Align != 0 || o.Align < s.Align {
					t.Fatal(short(s), at, o)
				}
				if s.Size > 0 {
					all = append(all, stretch{at, at + s.Size})
					for _, addr := range []int{at, at + s.Size - 1} {
						checkFind(t, m, addr, o, true)
					}
				}
			}
		}
		if !areApart(all) {
			t.Fatal(short(l), short(m.At))
		}
	}
	if laid < 5000 {
		t.Error(laid)
	}
}

// TestP1909Pages: of each page that has addresses of a section the segments agree, and none is for writing and executing.
func TestP1909Pages(t *testing.T) {
	random := seeded(5)
	for range 500 {
		m := placed(t, takenObjects(random, 5))
		owner := map[int]int{}
		for k, s := range m.Segments {
			if s.Flags&(layout.W|layout.X) == layout.W|layout.X || s.Offset != s.Addr {
				t.Fatal(short(m.Segments))
			}
			if s.Type != layout.Load {
				continue
			}
			for addr := s.Addr; addr < s.Addr+s.Memory; addr++ {
				if other, had := owner[addr/4096]; had && other != k {
					t.Fatal(short(m.Segments), addr)
				}
				owner[addr/4096] = k
				if addr%4096 == 0 && addr+4096 < s.Addr+s.Memory {
					addr += 4095
				}
			}
		}
		for _, o := range m.Outputs {
			if o.Size == 0 {
				continue
			}
			want := layout.R
			if o.Flags&api.Exec != 0 {
				want |= layout.X
			} else if o.Flags&(api.Write|api.TlsFlag) != 0 {
				want |= layout.W
			}
			first, ok := owner[o.Addr/4096]
			last, lastOk := owner[(o.Addr+o.Size-1)/4096]
			if !ok || !lastOk || first != last || m.Segments[first].Flags != want {
				t.Fatal(short(m.Segments), o)
			}
		}
	}
}

func TestP1910InOrder(t *testing.T) {
	random := seeded(6)
	for range 500 {
		l := takenObjects(random, 5)
		m := placed(t, l)
		ends := map[string]int{}
		for i, f := range l {
			for k, s := range f.Sections {
				if m.At[i][k] < ends[s.Name] && s.Flags&api.Alloc != 0 {
					t.Fatal(short(l), short(m.At))
				}
				ends[s.Name] = m.At[i][k] + s.Size
			}
		}
	}
}

func outputNames(m layout.Map) []string {
	var l []string
	for _, o := range m.Outputs {
		l = append(l, o.Name)
	}
	return l
}

// TestP1910OneMore: names that were there keep their order; new ones stand behind those of their group.
func TestP1910OneMore(t *testing.T) {
	random := seeded(7)
	added := 0
	for range 800 {
		l := takenObjects(random, 4)
		more := append(slices.Clone(l), anyObject(random, 0))
		had := outputNames(placed(t, l))
		m, e := layout.Place(more)
		if e != api.OK {
			continue
		}
		isNew := func(n string) bool { return !slices.Contains(had, n) }
		if kept := slices.DeleteFunc(outputNames(m), isNew); !slices.Equal(kept, had) {
			t.Fatal(had, kept)
		}
		group, newOnes := 0, false
		for _, o := range m.Outputs {
			g := modelGroup(api.Section{Type: o.Type, Flags: o.Flags})
			if g < group || g == group && newOnes && !isNew(o.Name) {
				t.Fatal(had, outputNames(m))
			}
			newOnes = isNew(o.Name) || g == group && newOnes
			group = g
			if isNew(o.Name) {
				added++
			}
		}
	}
	if added < 500 {
		t.Error(added)
	}
}
