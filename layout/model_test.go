package layout_test

import (
	"bytes"
	"math/big"
	"math/rand/v2"
	"slices"
	"testing"

	"gangway/api"
	"gangway/layout"
	"gangway/resolve"
)

// The chapter once more, slowly: each sentence for itself, all objects gone through anew for each group and name.

func modelCheck(l []api.File) api.Errno {
	if e := resolve.Check(l); e != api.OK {
		return e
	}
	for _, f := range l {
		for _, s := range f.Sections {
			for _, g := range l {
				for _, r := range g.Sections {
					if s.Name == r.Name && (s.Type != r.Type || s.Flags != r.Flags) {
						return api.ErrType
					}
				}
			}
			laid, write, exec, thread := s.Flags&2 != 0, s.Flags&1 != 0, s.Flags&4 != 0, s.Flags&1024 != 0
			if laid && (write && exec || thread && exec) {
				return api.ErrType
			}
		}
	}
	return api.OK
}

// modelGroup: the first of the groups 1 to 8 whose words hold of a section that is laid out.
func modelGroup(s api.Section) int {
	write, exec, thread, empty := s.Flags&1 != 0, s.Flags&4 != 0, s.Flags&1024 != 0, s.Type == 8
	holds := []bool{!write && !exec && !thread, exec, thread && !empty, thread && empty, s.Type == 14, s.Type == 15, !empty, true}
	return 1 + slices.Index(holds, true)
}

func isLaid(s api.Section) bool { return s.Flags&2 != 0 }

func nextMultiple(n, align int) int {
	for n%align != 0 {
		n++
	}
	return n
}

// modelGreatest: of the Aligns of all sections that the question holds of.
func modelGreatest(l []api.File, holds func(api.Section) bool) int {
	n := 0
	for _, f := range l {
		for _, s := range f.Sections {
			if isLaid(s) && holds(s) {
				n = max(n, s.Align)
			}
		}
	}
	return n
}

func modelPlace(l []api.File) (layout.Map, api.Errno) {
	if e := modelCheck(l); e != api.OK {
		return layout.Map{}, e
	}
	m := layout.Map{End: 4096}
	for _, f := range l {
		m.At = append(m.At, slices.Repeat([]int{-1}, len(f.Sections)))
	}
	tlsAlign := modelGreatest(l, func(s api.Section) bool { return modelGroup(s) == 3 || modelGroup(s) == 4 })
	var had []int // the groups of Outputs
	for group := 1; group <= 8; group++ {
		for _, f := range l {
			for _, s := range f.Sections {
				if !isLaid(s) || modelGroup(s) != group || slices.ContainsFunc(m.Outputs, func(o layout.Output) bool { return o.Name == s.Name }) {
					continue
				}
				o := layout.Output{Name: s.Name, Type: s.Type, Flags: s.Flags, Addr: m.End}
				o.Align = modelGreatest(l, func(r api.Section) bool { return r.Name == s.Name })
				if !slices.Contains(had, group) && (group < 3 || !slices.ContainsFunc(had, func(n int) bool { return n > 2 })) {
					o.Addr = nextMultiple(o.Addr, 4096)
				}
				if (group == 3 || group == 4) && !slices.Contains(had, 3) && !slices.Contains(had, 4) {
					o.Addr = nextMultiple(o.Addr, tlsAlign)
				}
				o.Addr = nextMultiple(o.Addr, o.Align)
				end := o.Addr
				for i, g := range l {
					for k, r := range g.Sections {
						if r.Name == s.Name {
							m.At[i][k] = nextMultiple(end, r.Align)
							end = m.At[i][k] + r.Size
						}
					}
				}
				o.Size = end - o.Addr
				m.End = end
				m.Outputs = append(m.Outputs, o)
				had = append(had, group)
			}
		}
	}
	if m.End > 16777216 {
		return layout.Map{}, api.ErrSize
	}
	modelSegments(&m, had, tlsAlign)
	return m, api.OK
}

func modelSegments(m *layout.Map, had []int, tlsAlign int) {
	for _, r := range []struct{ kind, flags, from, to, align int }{{1, 4, 1, 1, 4096}, {1, 5, 2, 2, 4096}, {1, 6, 3, 8, 4096}, {7, 4, 3, 4, tlsAlign}} {
		s := api.Segment{Type: r.kind, Flags: r.flags, Addr: -1, Align: r.align}
		for k, o := range m.Outputs {
			if had[k] < r.from || had[k] > r.to {
				continue
			}
			if s.Addr < 0 {
				s.Addr, s.Offset = o.Addr, o.Addr
			}
			if o.Type != 8 {
				s.Size = o.Addr + o.Size - s.Addr
			}
			s.Memory = o.Addr + o.Size - s.Addr
		}
		if s.Addr < 0 {
			continue
		}
		m.Segments = append(m.Segments, s)
		if r.kind == 7 {
			m.Tls, m.TlsSize, m.TlsAlign = s.Addr, s.Memory, s.Align
			m.Tp = s.Addr + nextMultiple(s.Memory, s.Align)
		}
	}
}

func modelFind(m layout.Map, addr int) (layout.Output, bool) {
	for _, o := range m.Outputs {
		end := new(big.Int).Add(big.NewInt(int64(o.Addr)), big.NewInt(int64(o.Size)))
		if addr >= o.Addr && end.Cmp(big.NewInt(int64(addr))) > 0 {
			return o, true
		}
	}
	return layout.Output{}, false
}

func modelBytes(l []api.File, m layout.Map, name string) ([]byte, api.Errno) {
	right, e := modelPlace(l)
	if e == api.OK && !areSame(right, m) {
		e = api.ErrArg
	}
	if e != api.OK {
		return nil, e
	}
	return modelContent(l, right, name)
}

// modelContent: of the right Map.
func modelContent(l []api.File, right layout.Map, name string) ([]byte, api.Errno) {
	for _, o := range right.Outputs {
		if o.Name != name {
			continue
		}
		b := make([]byte, o.Size)
		for i, f := range l {
			for k, s := range f.Sections {
				for at := range s.Data {
					if s.Name == name {
						b[right.At[i][k]-o.Addr+at] = s.Data[at]
					}
				}
			}
		}
		return b, api.OK
	}
	return nil, api.ErrNone
}

// checkModel: all calls of objects against the model.
func checkModel(t *testing.T, l []api.File) api.Errno {
	t.Helper()
	want, e := modelPlace(l)
	got, gotE := layout.Place(l)
	if gotE != e || !areSame(got, want) {
		t.Fatalf("Place(%s): %s, %d; want %s, %d", short(l), short(got), gotE, short(want), e)
	}
	names := []string{"", ".text", "nobody"}
	for _, o := range want.Outputs {
		names = append(names, o.Name)
	}
	for _, f := range l {
		for k := range min(2, len(f.Sections)) {
			names = append(names, f.Sections[k].Name)
		}
	}
	for _, name := range names {
		var b []byte
		wantE := e
		if e == api.OK {
			b, wantE = modelContent(l, want, name)
		}
		if x, gotE := layout.Bytes(l, got, name); gotE != wantE || !bytes.Equal(x, b) {
			t.Fatalf("Bytes(%s, %q): %s, %d; want %s, %d", short(l), name, short(x), gotE, short(b), wantE)
		}
	}
	for _, o := range want.Outputs {
		for _, addr := range []int{o.Addr - 1, o.Addr, o.Addr + o.Size - 1, o.Addr + o.Size, o.Addr + o.Size/2} {
			x, ok := modelFind(want, addr)
			checkFind(t, got, addr, x, ok)
		}
		checkNamed(t, got, o.Name, o, true)
	}
	return e
}

// sectionKinds: name by name, of all groups, several of each, and some that are not laid out.
func sectionKinds() []api.Section {
	var l []api.Section
	for _, flags := range []int{0, 1, 2, 3, 4, 6, 1024, 1026, 1027} {
		for _, kind := range []int{api.ProgBits, api.NoBits, api.InitArray, api.FiniArray} {
			for _, letter := range []string{"a", "b"} {
				name := letter + string(rune('0'+kind)) + string(rune('A'+flags%1024)) + string(rune('0'+flags/1024))
				l = append(l, section(name, kind, flags, 1, 0))
			}
		}
	}
	return l
}

// anyObject is one of a few sections that mostly may be.
func anyObject(random *rand.Rand, wild int) api.File {
	var f api.File
	kinds := sectionKinds()
	random.Shuffle(len(kinds), func(i, j int) { kinds[i], kinds[j] = kinds[j], kinds[i] })
	for _, k := range kinds[:random.IntN(14)] {
		size := pick(random, 0, 0, 1, 3, 8, 20, 100, 4096, 5000)
		if k.Type == api.NoBits && random.IntN(100) < wild {
			size = pick(random, 100000, 1<<22, 1<<24-4096, 1<<24)
		}
		s := section(k.Name, k.Type, k.Flags, 1<<pick(random, 0, 0, 1, 2, 3, 4, 5, 6, 9, 12), size)
		if random.IntN(200) < wild {
			s.Flags ^= pick(random, 1, 2, 4, 1024, 8)
		}
		if random.IntN(400) < wild {
			s.Align = pick(random, 0, 3, -4, 8192)
		}
		f.Sections = append(f.Sections, s)
	}
	return f
}

// TestP1903AsTheModel: rows of objects, tame and wild.
func TestP1903AsTheModel(t *testing.T) {
	random := seeded(1)
	seen := map[api.Errno]int{}
	for k := range 4000 {
		var l []api.File
		for range random.IntN(5) {
			l = append(l, anyObject(random, k%4))
		}
		seen[checkModel(t, l)]++
	}
	for _, e := range []api.Errno{api.OK, api.ErrSymbol, api.ErrType, api.ErrSize} {
		if seen[e] < 30 {
			t.Error(seen)
		}
	}
}

// TestP1903EachPair: sections of each two kinds, in both orders, in one object and in two.
func TestP1903EachPair(t *testing.T) {
	kinds := sectionKinds()
	for _, a := range kinds {
		for _, b := range kinds {
			if a.Name == b.Name {
				continue
			}
			for n := range 3 {
				x := section(a.Name, a.Type, a.Flags, 4, 6*n)
				y := section(b.Name, b.Type, b.Flags, 16, 9-4*n)
				checkModel(t, one(x, y))
				checkModel(t, files(object(x), object(y), object(x, y)))
			}
		}
	}
}
