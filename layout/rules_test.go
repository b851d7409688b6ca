package layout_test

import (
	"math"
	"slices"
	"testing"

	"gangway/api"
	"gangway/layout"
)

func wildNumbers() []int {
	return []int{math.MinInt, -1 << 62, -1 << 32, -4096, -1, 0, 1, 2, 3, 6, 8, 14, 15, 1024, 1026, 1027, 4096, 1 << 24, 1 << 30, 1 << 32, 1 << 62, math.MaxInt}
}

func wildNames() []string {
	return []string{"", "*", "\x00", "a", "\xff", ".text", long(255), long(256), long(70000)}
}

// TestP1NothingPanics: each field made wild; with an error nothing else is answered.
func TestP1NothingPanics(t *testing.T) {
	for _, n := range wildNumbers() {
		for _, name := range wildNames() {
			s := api.Section{Name: name, Type: n, Flags: n, Align: n, Data: []byte(name), Size: n}
			right := section(name, api.ProgBits, 6, 1, 1)
			flags := section(name, api.ProgBits, n, 1, 1)
			room := api.Section{Name: name, Type: api.NoBits, Flags: 3, Align: 1, Size: n}
			align := section("b", api.ProgBits, 2, n, 1)
			for _, sections := range [][]api.Section{nil, {s}, {s, s}, {right}, {room}, {align}, {flags, align}, {text(8, 3), s}, {right, room}} {
				checkModel(t, one(sections...))
				checkModel(t, files(object(right), object(sections...), object(text(16, 3))))
			}
			o := output(name, n, n, n, n, n)
			for _, m := range []layout.Map{{Outputs: []layout.Output{o}}, {Outputs: []layout.Output{o}, At: [][]int{{n}}, Segments: []api.Segment{{Addr: n, Size: n}}, Tls: n, TlsSize: n, TlsAlign: n, Tp: n, End: n}, {At: [][]int{{n}, {n, n}}, End: 4096}} {
				for _, addr := range wildNumbers() {
					want, ok := modelFind(m, addr)
					checkFind(t, m, addr, want, ok)
				}
				for _, l := range [][]api.File{nil, one(right), one(s), one(room)} {
					want, e := modelBytes(l, m, name)
					checkBytes(t, l, m, name, want, e)
				}
			}
		}
	}
}

// TestP1MuchEnds: lists far beyond the limits.
func TestP1MuchEnds(t *testing.T) {
	const many = 1 << 20
	checkError(t, make([]api.File, many), api.ErrSize)
	checkError(t, slices.Repeat(files(api.File{Sections: make([]api.Section, many)}), 16), api.ErrSize)
	checkError(t, slices.Repeat(files(api.File{Symbols: make([]api.Symbol, many)}), 16), api.ErrSize)
	great := section(".data", api.ProgBits, 3, 8, 1<<22)
	checkError(t, slices.Repeat(one(great), 16), api.ErrSize)
	checkEnd(t, slices.Repeat(one(great), 3), 4096+3<<22)
	m := layout.Map{Outputs: make([]layout.Output, many), At: make([][]int, many), Segments: make([]api.Segment, many)}
	checkFind(t, m, 0, layout.Output{}, false)
	checkNamed(t, m, "a", layout.Output{}, false)
	checkBytes(t, nil, m, "a", nil, api.ErrArg)
}

// TestP1NilAndEmpty: they mean the same.
func TestP1NilAndEmpty(t *testing.T) {
	null := object(api.Section{Name: "s", Type: api.ProgBits, Flags: 2, Align: 1})
	empty := object(api.Section{Name: "s", Type: api.ProgBits, Flags: 2, Align: 1, Data: []byte{}, Relocs: []api.Reloc{}})
	empty.Symbols = []api.Symbol{}
	if a, b := placed(t, files(null)), placed(t, files(empty)); !areSame(a, b) {
		t.Error(short(a), short(b))
	}
	for _, l := range [][]api.File{nil, {}, {{}}, {{Sections: []api.Section{}, Symbols: []api.Symbol{}}}, files(null, empty)} {
		checkModel(t, l)
	}
}

// some: objects that Place takes.
func some() []api.File {
	return files(object(text(16, 3), data(8, 5), note(3), tdata(4, 6)), object(), object(text(8, 9), tbss(16, 3), bss(4, 70), rodata(2, 3)))
}

func scratch[T any](l []T, x T) {
	l = l[:cap(l)]
	for k := range l {
		l[k] = x
	}
}

// TestP1AnswersAreNew: what is done with an answer, and the room behind it, is to be seen in no other one, nor in an argument.
func TestP1AnswersAreNew(t *testing.T) {
	l := some()
	want, _ := modelPlace(some())
	for spoilt := range 3 + len(want.At) {
		m := placed(t, l)
		again := placed(t, l)
		switch spoilt {
		case 0:
			scratch(m.Outputs, output("z", 9, 9, 9, 9, 9))
			m.Outputs = slices.Clone(want.Outputs)
		case 1:
			scratch(m.Segments, tls(9, 9, 9, 9))
			m.Segments = slices.Clone(want.Segments)
		case 2:
			scratch(m.At, []int{9})
			m.At = slices.Clone(want.At)
		default:
			scratch(m.At[spoilt-3], 9)
			m.At[spoilt-3] = slices.Clone(want.At[spoilt-3])
		}
		if !areSame(m, want) || !areSame(again, want) || !areSame(placed(t, l), want) {
			t.Error(spoilt, short(m))
		}
	}
	for _, n := range []string{".text", ".data", ".bss"} {
		b, _ := layout.Bytes(l, want, n)
		again, _ := layout.Bytes(l, want, n)
		right, _ := modelBytes(some(), want, n)
		scratch(b, 99)
		if !slices.Equal(again, right) || !slices.EqualFunc(l, some(), sameFile) {
			t.Error(n, again)
		}
		checkBytes(t, l, want, n, right, api.OK)
	}
	// What was answered hangs on nothing that is done to the objects afterwards.
	m := placed(t, l)
	b, _ := layout.Bytes(l, m, ".text")
	for _, f := range l {
		for _, s := range f.Sections {
			scratch(s.Data, 255)
		}
		scratch(f.Sections, note(1))
	}
	right, _ := modelBytes(some(), want, ".text")
	if !areSame(m, want) || !slices.Equal(b, right) {
		t.Error(short(m), b)
	}
}

// roomy is the list with room behind it that is not empty.
func roomy[T any](l []T, behind T) []T {
	return append(slices.Clone(l), behind, behind)[:len(l)]
}

func sameSection(a, b api.Section) bool {
	return a.Name == b.Name && a.Type == b.Type && a.Flags == b.Flags && a.Align == b.Align && a.Size == b.Size && slices.Equal(a.Data, b.Data) && slices.Equal(a.Relocs, b.Relocs)
}

func sameFile(a, b api.File) bool {
	return slices.EqualFunc(a.Sections, b.Sections, sameSection) && slices.Equal(a.Symbols, b.Symbols)
}

// behind: what stands behind the end of a list in its room.
func behind[T any](l []T) T { return l[:len(l)+1][len(l)] }

// TestP1ArgumentsStay: neither what is handed in nor the room behind it is changed, nor is that room read.
func TestP1ArgumentsStay(t *testing.T) {
	l := roomy(some(), object(text(64, 7)))
	for k := range l {
		f := &l[k]
		for i := range f.Sections {
			f.Sections[i].Data = roomy(f.Sections[i].Data, 'b')
		}
		f.Sections = roomy(f.Sections, rodata(64, k))
	}
	want, _ := modelPlace(some())
	m, _ := modelPlace(some())
	m.Outputs = roomy(m.Outputs, output("behind", 1, 1, 1, 1, 1))
	m.Segments = roomy(m.Segments, tls(1, 1, 1, 1))
	m.At = roomy(m.At, []int{7})
	for k := range m.At {
		m.At[k] = roomy(m.At[k], 7)
	}
	checkModel(t, l)
	checkNamed(t, m, "behind", layout.Output{}, false)
	checkFind(t, m, 1, layout.Output{}, false)
	for _, n := range []string{".text", ".data", ".bss", "behind"} {
		right, e := modelBytes(some(), want, n)
		checkBytes(t, l, m, n, right, e)
	}
	if !slices.EqualFunc(l, some(), sameFile) || !sameFile(behind(l), object(text(64, 7))) || !areSame(m, want) {
		t.Error(short(l), short(m))
	}
	if behind(m.Outputs).Name != "behind" || behind(m.Segments) != tls(1, 1, 1, 1) || !slices.Equal(behind(m.At), []int{7}) {
		t.Error(short(m))
	}
	for k, f := range l {
		if !sameSection(behind(f.Sections), rodata(64, k)) || behind(m.At[k]) != 7 {
			t.Error(k, short(f))
		}
		for _, s := range f.Sections {
			if behind(s.Data) != 'b' {
				t.Error(k, short(s))
			}
		}
	}
}

// TestP1TheSameAgain: what is answered hangs on the arguments alone, many times and side by side.
func TestP1TheSameAgain(t *testing.T) {
	random := seeded(8)
	var all [][]api.File
	var want []layout.Map
	for range 100 {
		l := takenObjects(random, 5)
		m, _ := modelPlace(l)
		all, want = append(all, l), append(want, m)
	}
	done := make(chan bool)
	for range 8 {
		go func() {
			same := true
			for k, l := range all {
				for range 3 {
					got, e := layout.Place(l)
					same = same && e == api.OK && areSame(got, want[k])
				}
			}
			done <- same
		}()
	}
	for range 8 {
		if !<-done {
			t.Error("not the same again")
		}
	}
}
