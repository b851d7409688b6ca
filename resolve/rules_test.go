package resolve_test

import (
	"bytes"
	"math"
	"slices"
	"testing"

	"gangway/api"
	"gangway/resolve"
)

func wildNumbers() []int {
	return []int{math.MinInt, math.MinInt + 1, -1 << 62, -1 << 32, -4096, -1, 0, 1, 2, 6, 8, 10, 15, 16, 1024, 4096, 1 << 30, 1 << 32, 1 << 62, 1<<62 + 1, math.MaxInt}
}

func wildNames() []string {
	return []string{"", "*", "\x00", "a", "a\x00", "\xff", ".text", long(255), long(256), long(70000)}
}

// TestP1NothingPanics: each field made wild; with an error nothing else is answered.
func TestP1NothingPanics(t *testing.T) {
	for _, n := range wildNumbers() {
		for _, name := range wildNames() {
			s := api.Section{Name: name, Type: n, Flags: n, Align: n, Data: []byte(name), Size: n}
			right := section(name, api.ProgBits, 4, 1)
			room := api.Section{Name: name, Type: api.NoBits, Flags: 3, Align: 1, Size: n}
			for _, sections := range [][]api.Section{nil, {s}, {s, s}, {right}, {room}, {text(), s}, {right, room}} {
				for _, symbols := range [][]api.Symbol{nil, {symbol(name, name, n, n, n, n)}, {symbol("a", name, n, n, 1, n)}, {symbol("a", name, n, n, 0, 0)}, {symbol(name, "*", n, n, 2, n), symbol(name, "", 0, 0, 1, 6)}} {
					l := files(api.File{Sections: sections, Symbols: symbols})
					checkModel(t, l)
					checkModel(t, append(l, object(strong("a"))))
				}
			}
			x := entry(name, n, n, n, n)
			checkFind(t, []resolve.Entry{x}, name, x, true)
			for _, l := range [][]api.File{nil, files(api.File{}), files(object(symbol(name, name, n, n, n, n)))} {
				for _, m := range wildNumbers() {
					for _, other := range wildNames() {
						o, k, e := modelLook(l, []resolve.Entry{x}, m, other)
						checkLook(t, l, []resolve.Entry{x}, m, other, o, k, e)
					}
				}
			}
		}
	}
}

// TestP1MuchEnds: lists far beyond the limits, and the same great things many times.
func TestP1MuchEnds(t *testing.T) {
	const many = 1 << 20
	checkCheck(t, make([]api.File, many), api.ErrSize)
	checkCheck(t, slices.Repeat(files(api.File{Sections: make([]api.Section, many)}), 16), api.ErrSize)
	checkCheck(t, slices.Repeat(files(api.File{Symbols: make([]api.Symbol, many)}), 16), api.ErrSize)
	great := section(".data", api.ProgBits, 3, 1<<28)
	checkAll(t, slices.Repeat(files(with(great, may("a"))), 16), nothing("a"))
	entries := make([]resolve.Entry, many)
	checkFind(t, entries, "a", resolve.Entry{}, false)
	f := api.File{Symbols: make([]api.Symbol, many)}
	f.Symbols[many-1].Name = "a"
	checkLook(t, files(f), entries, 0, "a", 0, many-1, api.OK)
	checkLook(t, files(f), entries, 0, "b", 0, 0, api.ErrNone)
}

// TestP1NilAndEmpty: they mean the same.
func TestP1NilAndEmpty(t *testing.T) {
	null := api.File{Sections: []api.Section{{Name: "s", Type: api.ProgBits, Align: 1}}}
	empty := api.File{Sections: []api.Section{{Name: "s", Type: api.ProgBits, Align: 1, Data: []byte{}, Relocs: []api.Reloc{}}}, Symbols: []api.Symbol{}}
	for _, l := range [][]api.File{nil, {}, {{}}, {{Sections: []api.Section{}, Symbols: []api.Symbol{}}}, {null}, {empty}, {null, empty}} {
		checkAll(t, l)
		for _, entries := range [][]resolve.Entry{nil, {}} {
			checkLook(t, l, entries, len(l), "s", 0, 0, api.ErrArg)
			checkLook(t, l, entries, len(l)-1, "s", 0, 0, []api.Errno{api.ErrArg, api.ErrNone}[min(1, len(l))])
		}
	}
}

// some: objects that agree; others: that do not.
func some() []api.File {
	return files(object(strong("a"), wants("b"), local("c")), object(weak("b"), may("c"), typed(in(weak("v"), ".tdata"), api.Tls)))
}

func others() []api.File {
	f := append(some(), object(strong("a"), wants("z")))
	f[2].Sections[1].Flags = 0
	return f
}

func scratch[T any](l []T, x T) {
	l = l[:cap(l)]
	for k := range l {
		l[k] = x
	}
}

// TestP1AnswersAreNew: what is done with an answer, and the room behind it, is to be seen in no other one.
func TestP1AnswersAreNew(t *testing.T) {
	want, _ := modelAll(some())
	entries, again := entriesOf(t, some()), entriesOf(t, some())
	scratch(entries, entry("z", 9, 9, 9, 9))
	if !slices.Equal(again, want) || !slices.Equal(entriesOf(t, some()), want) {
		t.Error(again)
	}
	faults, same := resolve.Faults(others()), resolve.Faults(others())
	scratch(faults, fault(9, "y"))
	if !slices.Equal(same, modelFaults(others())) || !slices.Equal(resolve.Faults(others()), modelFaults(others())) {
		t.Error(same)
	}
	// What is told of them hangs on nothing that was answered or handed in before.
	l := some()
	entries = entriesOf(t, l)
	spoil(l)
	if !slices.Equal(entries, want) || !slices.Equal(entriesOf(t, some()), want) {
		t.Error(entries)
	}
}

// spoil overwrites all that objects have, and the room behind it.
func spoil(l []api.File) {
	for _, f := range l {
		for _, s := range f.Sections {
			scratch(s.Data, 255)
			scratch(s.Relocs, api.Reloc{At: 9, Symbol: "spoilt"})
		}
		scratch(f.Sections, api.Section{Name: "spoilt"})
		scratch(f.Symbols, local("spoilt"))
	}
	scratch(l, api.File{})
}

// roomy is the list with room behind it that is not empty.
func roomy[T any](l []T, behind T) []T {
	return append(slices.Clone(l), behind, behind)[:len(l)]
}

func sameSection(a, b api.Section) bool {
	return a.Name == b.Name && a.Type == b.Type && a.Flags == b.Flags && a.Align == b.Align && a.Size == b.Size && bytes.Equal(a.Data, b.Data) && slices.Equal(a.Relocs, b.Relocs)
}

func sameFile(a, b api.File) bool {
	return slices.EqualFunc(a.Sections, b.Sections, sameSection) && slices.Equal(a.Symbols, b.Symbols)
}

// TestP1ArgumentsStay: neither what is handed in nor the room behind it is changed, nor is that room read.
func TestP1ArgumentsStay(t *testing.T) {
	for _, made := range []func() []api.File{some, others} {
		l := roomy(made(), object(strong("behind"), wants("nobody")))
		for k := range l {
			f := &l[k]
			f.Symbols = roomy(f.Symbols, wants("behind"))
			for i := range f.Sections {
				f.Sections[i].Data = roomy(f.Sections[i].Data, 'b')
			}
			f.Sections = roomy(f.Sections, section("behind", k, k, k))
		}
		checkModel(t, l)
		entries, _ := modelAll(made())
		entries = roomy(entries, entry("behind", 1, 1, 1, 1))
		checkFind(t, entries, "behind", resolve.Entry{}, false)
		for _, n := range []string{"a", "b", "c", "behind"} {
			o, k, e := modelLook(made(), entries, 1, n)
			checkLook(t, l, entries, 1, n, o, k, e)
		}
		if !slices.EqualFunc(l, made(), sameFile) || !sameFile(l[:len(l)+1][len(l)], object(strong("behind"), wants("nobody"))) || entries[:len(entries)+1][len(entries)].Name != "behind" {
			t.Error(short(l))
		}
		for k, f := range l {
			if f.Symbols[:len(f.Symbols)+1][len(f.Symbols)] != wants("behind") || !sameSection(f.Sections[:len(f.Sections)+1][len(f.Sections)], section("behind", k, k, k)) {
				t.Error(k, short(f))
			}
			for _, s := range f.Sections {
				if behind := s.Data[:len(s.Data)+2]; len(s.Data) > 0 && string(behind[len(s.Data):]) != "bb" {
					t.Error(k, short(s))
				}
			}
		}
	}
}

// TestP1TheSameAgain: what is answered hangs on the arguments alone, many times and side by side.
func TestP1TheSameAgain(t *testing.T) {
	random := seeded(11)
	var all [][]api.File
	for range 300 {
		all = append(all, rightObjects(random, 5))
	}
	done := make(chan bool)
	for range 8 {
		go func() {
			same := true
			for _, l := range all {
				want, wantFault := modelAll(l)
				got, gotFault := resolve.All(l)
				same = same && slices.Equal(got, want) && gotFault == wantFault && slices.Equal(resolve.Faults(l), modelFaults(l))
			}
			done <- same
		}()
	}
	for range 8 {
		if !<-done {
			t.Error("not the same again")
		}
	}
}
