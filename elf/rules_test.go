package elf_test

import (
	"bytes"
	"slices"
	"strings"
	"testing"

	"gangway/api"
	"gangway/elf"
)

func wildNames() []string {
	return []string{"", "*", "\x00", "a", "a\x00", "\xff", ".rela", ".symtab", long(255), long(256), long(70000), zeros(300)}
}

// TestP1NothingPanics: each field made wild; with an error nothing else is answered.
func TestP1NothingPanics(t *testing.T) {
	for _, n := range wild() {
		for _, name := range wildNames() {
			s := api.Section{Name: name, Type: n, Flags: n, Align: n, Data: []byte(name), Size: n, Relocs: []api.Reloc{reloc(n, n, name, n)}}
			r := plain("a", "x", reloc(n, n, name, n))
			for _, sections := range [][]api.Section{nil, {s}, {s, s}, {r}, {plain(name, "x")}, {plain("a", ""), s}, {room(name, n, n, n)}} {
				for _, symbols := range [][]api.Symbol{nil, {of(name, name, n)}, {symbol("x", "a", n, n, 1, 1)}, {of(name, "*", 0)}} {
					f := api.File{Sections: sections, Symbols: symbols}
					checkAnswer(t, f, modelCheck(f))
				}
			}
		}
	}
}

func TestP1NothingPanicsOfImages(t *testing.T) {
	for _, n := range wild() {
		for _, m := range wild() {
			all := segment(n, m, n, m, n, m, n)
			load := segment(1, 5, n, page, m, n, page)
			other := segment(2, 4, n, m, m, n, 1)
			for _, l := range [][]api.Segment{nil, {all}, {load}, {load, load}, {load, other}, append(tiny().Segments, other), append(tiny().Segments, load, all), {other, load}} {
				for _, loads := range [][][]byte{nil, {nil}, {{1}}, {{1}, {2}}} {
					i := elf.Image{Entry: n, Segments: l, Loads: loads}
					checkRight(t, i, modelRight(i))
				}
			}
		}
	}
}

// TestP1NothingPanicsOfBytes: rows of all kinds of bytes, with and without a head.
func TestP1NothingPanicsOfBytes(t *testing.T) {
	object, image := write(t, some()), save(t, several())
	for n := range 400 {
		for _, c := range []byte{0, 1, 2, 4, 16, 64, 127, 128, 255} {
			row := bytes.Repeat([]byte{c}, n)
			refused(t, row)
			shut(t, row)
			if n > 0 {
				refused(t, append(bytes.Clone(object), row...))
				refused(t, append(object[:64:64], row...))
				shut(t, append(image[:64:64], row...))
				shut(t, append(bytes.Clone(image), row...))
			}
			if l, e := elf.ReadRelas(row); e != api.OK && len(l) > 0 {
				t.Fatal(l, e)
			}
			if l, e := elf.ReadEntries(row); e != api.OK && len(l) > 0 {
				t.Fatal(l, e)
			}
		}
	}
}

// TestP1MuchEnds: lists and bytes far beyond the limits.
func TestP1MuchEnds(t *testing.T) {
	const many = 1 << 20
	checkAnswer(t, object(make([]api.Section, many)...), api.ErrSize)
	checkAnswer(t, api.File{Symbols: make([]api.Symbol, many)}, api.ErrSize)
	checkAnswer(t, object(plain("a", "", make([]api.Reloc, many)...)), api.ErrSize)
	checkRight(t, elf.Image{Segments: make([]api.Segment, many), Loads: make([][]byte, many)}, api.ErrElf)
	checkRight(t, elf.Image{Segments: slices.Repeat(tiny().Segments, many), Loads: make([][]byte, many)}, api.ErrElf)
	checkRelas(t, make([]elf.Rela, many), nil, api.ErrSize)
	checkEntries(t, make([]elf.Entry, many), nil, api.ErrSize)
	checkReadRelas(t, make([]byte, 24*many), nil, api.ErrSize)
	checkReadRelas(t, append(make([]byte, 24*many), longs(0, -1, 0)...), nil, api.ErrElf)
	checkReadEntries(t, bytes.Repeat([]byte{1, 0, 0, 0, 0, 0, 0, 0}, 2*many), nil, api.ErrElf)
	checkReadEntries(t, append(bytes.Repeat([]byte{1, 0, 0, 0, 0, 0, 0, 0}, 2*many), make([]byte, 16)...), nil, api.ErrSize)
	// Many sections of the same great bytes: too many to write, but no more than that.
	much := make([]byte, 1<<26)
	l := numbered(28)
	for k := range l {
		l[k].Data, l[k].Size = much, len(much)
	}
	if b, e := elf.Write(object(l...)); len(b) != 0 || e != api.ErrSize {
		t.Error(len(b), e)
	}
	// Many heads of the same great part; many tables of the same bytes.
	b := modelWrite(object(plain("a", strings.Repeat("\x00", api.MaxBytes/2))))
	heads := get(b, 40, 8)
	for _, kind := range []int{1, 4} {
		for _, count := range []int{60, 6000} {
			other := bytes.Clone(b[:heads+64])
			for range count - 4 {
				other = append(other, append(bytesOf(4, 1, kind), append(bytesOf(8, 0, 0, 64, api.MaxBytes/2), append(bytesOf(4, 0, 1), bytesOf(8, 1, 0)...)...)...)...)
			}
			other = append(other, b[heads+128:]...)
			copy(other[60:], bytesOf(2, count, count-1))
			refused(t, other)
		}
	}
}

// TestP1NilAndEmpty: they mean the same.
func TestP1NilAndEmpty(t *testing.T) {
	empty := api.File{Sections: []api.Section{{Name: "a", Type: api.ProgBits, Align: 1, Data: []byte{}, Relocs: []api.Reloc{}}}, Symbols: []api.Symbol{}}
	null := api.File{Sections: []api.Section{{Name: "a", Type: api.ProgBits, Align: 1}}}
	if !bytes.Equal(write(t, empty), write(t, null)) {
		t.Error("not the same")
	}
	checkAnswer(t, api.File{Sections: []api.Section{}, Symbols: []api.Symbol{}}, api.OK)
	checkRight(t, elf.Image{Segments: []api.Segment{}, Loads: [][]byte{}}, api.ErrElf)
	i, j := loaded([]int{page}, []int{5}, ""), loaded([]int{page}, []int{5}, "")
	i.Loads, j.Loads = [][]byte{nil}, [][]byte{{}}
	if !bytes.Equal(save(t, i), save(t, j)) {
		t.Error("not the same")
	}
	for _, b := range [][]byte{nil, {}} {
		refused(t, b)
		shut(t, b)
		checkReadRelas(t, b, nil, api.OK)
		checkReadEntries(t, b, nil, api.ErrElf)
	}
	checkRelas(t, []elf.Rela{}, nil, api.OK)
	checkEntries(t, []elf.Entry{}, make([]byte, 16), api.OK)
}

// spoil: overwrites all that an object has, and the room behind it.
func spoil(f api.File) {
	for _, s := range f.Sections {
		scratch(s.Data, 255)
		scratch(s.Relocs, reloc(-1, -1, "spoilt", -1))
	}
	scratch(f.Sections, api.Section{Name: "spoilt"})
	scratch(f.Symbols, of("spoilt", "*", 9))
}

func spoilImage(i elf.Image) {
	for _, l := range i.Loads {
		scratch(l, 255)
	}
	scratch(i.Loads, []byte("spoilt"))
	scratch(i.Segments, segment(-1, -1, -1, -1, -1, -1, -1))
}

// TestP1AnswersAreNew: what is done with an answer is to be seen in no other one, nor in what was handed in.
func TestP1AnswersAreNew(t *testing.T) {
	f := sorted(some())
	b := write(t, f)
	kept := bytes.Clone(b)
	scratch(write(t, f), 255)
	got, _ := elf.Read(b)
	spoil(got)
	checkRead(t, kept, f, api.OK)
	if !bytes.Equal(b, kept) || !bytes.Equal(write(t, f), kept) || !sameObject(f, sorted(some())) {
		t.Error("another object")
	}

	i := several()
	b = save(t, i)
	kept = bytes.Clone(b)
	scratch(save(t, i), 255)
	opened, _ := elf.Open(b)
	spoilImage(opened)
	checkOpen(t, kept, i, api.OK)
	if !bytes.Equal(b, kept) || !bytes.Equal(save(t, i), kept) || !sameImage(i, several()) {
		t.Error("another image")
	}

	table, _ := elf.Relas([]elf.Rela{rela(1, 2, 3)})
	l, _ := elf.ReadRelas(table)
	scratch(l, rela(9, 9, 9))
	checkReadRelas(t, table, []elf.Rela{rela(1, 2, 3)}, api.OK)
	scratch(table, 255)
	checkRelas(t, []elf.Rela{rela(1, 2, 3)}, longs(1, 2, 3), api.OK)
	table, _ = elf.Entries([]elf.Entry{entry(1, 2)})
	entries, _ := elf.ReadEntries(table)
	scratch(entries, entry(9, 9))
	checkReadEntries(t, table, []elf.Entry{entry(1, 2)}, api.OK)
	scratch(table, 255)
	checkEntries(t, []elf.Entry{entry(1, 2)}, longs(1, 2, 0, 0), api.OK)
}

// TestP1PartsApart: no two lists of one answer share anything, not even the room behind them.
func TestP1PartsApart(t *testing.T) {
	f := sorted(some())
	b := write(t, f)
	for k := range f.Sections {
		got, _ := elf.Read(b)
		scratch(got.Sections[k].Data, 255)
		scratch(got.Sections[k].Relocs, reloc(-1, -1, "spoilt", -1))
		got.Sections[k] = f.Sections[k]
		if !sameObject(got, f) {
			t.Fatalf("%d: %s", k, short(got))
		}
	}
	i := several()
	b = save(t, i)
	for k := range i.Loads {
		got, _ := elf.Open(b)
		scratch(got.Loads[k], 255)
		got.Loads[k] = i.Loads[k]
		if !sameImage(got, i) {
			t.Fatalf("%d: %s", k, short(got))
		}
	}
}

// TestP1AnswersStay: what was answered does not change when what was handed in is changed afterwards.
func TestP1AnswersStay(t *testing.T) {
	f := deep(some())
	b := write(t, f)
	spoil(f)
	if !bytes.Equal(b, modelWrite(some())) {
		t.Error("other bytes")
	}
	got, _ := elf.Read(b)
	scratch(b, 255)
	if !sameObject(got, sorted(some())) {
		t.Error(short(got))
	}
	i := several()
	b = save(t, i)
	spoilImage(i)
	if !bytes.Equal(b, modelSave(several())) {
		t.Error("other bytes")
	}
	opened, _ := elf.Open(b)
	scratch(b, 255)
	if !sameImage(opened, several()) {
		t.Error(short(opened))
	}
	table := longs(1, 2, 3)
	relas, _ := elf.ReadRelas(table)
	scratch(table, 255)
	table = longs(1, 2, 0, 0)
	entries, _ := elf.ReadEntries(table)
	scratch(table, 255)
	if !slices.Equal(relas, []elf.Rela{rela(1, 2, 3)}) || !slices.Equal(entries, []elf.Entry{entry(1, 2)}) {
		t.Error(relas, entries)
	}
}

// roomy: a list with room behind it that is not empty.
func roomy[T any](l []T, behind T) []T {
	return append(slices.Clone(l), behind, behind, behind)[:len(l)]
}

// TestP1ArgumentsStay: neither what is handed in nor the room behind it is changed, nor is that room read.
func TestP1ArgumentsStay(t *testing.T) {
	f := deep(some())
	for k := range f.Sections {
		s := &f.Sections[k]
		s.Data, s.Relocs = roomy(s.Data, 'b'), roomy(s.Relocs, reloc(7, 7, "behind", 7))
	}
	f.Sections, f.Symbols = roomy(f.Sections, plain("behind", "")), roomy(f.Symbols, of("behind", "*", 0))
	b := write(t, f)
	if !bytes.Equal(b, modelWrite(some())) || elf.Check(f) != api.OK || !sameObject(f, some()) {
		t.Error("another object")
	}
	for k, s := range f.Sections {
		if behind := s.Data[len(s.Data) : len(s.Data)+3]; string(behind) != "bbb" {
			t.Errorf("%d: %q", k, behind)
		}
		if behind := s.Relocs[len(s.Relocs) : len(s.Relocs)+3]; behind[0].Symbol != "behind" || behind[2].Symbol != "behind" {
			t.Errorf("%d: %v", k, behind)
		}
	}
	if f.Sections[:len(f.Sections)+1][len(f.Sections)].Name != "behind" || f.Symbols[:len(f.Symbols)+1][len(f.Symbols)].Name != "behind" {
		t.Error("the room behind")
	}
	room := roomy(b, 'b')
	checkRead(t, room, sorted(some()), api.OK)
	refused(t, room[:len(room)-1])
	if !bytes.Equal(room, b) || string(room[len(room):len(room)+3]) != "bbb" {
		t.Error("other bytes")
	}
}

func TestP1ArgumentsOfImagesStay(t *testing.T) {
	i := several()
	for k := range i.Loads {
		i.Loads[k] = roomy(i.Loads[k], 'b')
	}
	i.Loads, i.Segments = roomy(i.Loads, []byte("behind")), roomy(i.Segments, segment(7, 7, 7, 7, 7, 7, 7))
	b := save(t, i)
	if !bytes.Equal(b, modelSave(several())) || elf.Right(i) != api.OK || !sameImage(i, several()) {
		t.Error("another image")
	}
	for k, l := range i.Loads {
		if string(l[len(l):len(l)+3]) != "bbb" {
			t.Errorf("%d: %q", k, l[:len(l)+3])
		}
	}
	if string(i.Loads[:4][3]) != "behind" || i.Segments[:len(i.Segments)+1][len(i.Segments)].Type != 7 {
		t.Error("the room behind")
	}
	room := roomy(b, 'b')
	checkOpen(t, room, several(), api.OK)
	shut(t, room[:len(room)-1])
	if !bytes.Equal(room, b) || string(room[len(room):len(room)+3]) != "bbb" {
		t.Error("other bytes")
	}
	relas, entries := roomy([]elf.Rela{rela(1, 2, 3)}, rela(-1, 0, 0)), roomy([]elf.Entry{entry(1, 2)}, entry(0, 0))
	checkRelas(t, relas, longs(1, 2, 3), api.OK)
	checkEntries(t, entries, longs(1, 2, 0, 0), api.OK)
	table, ends := roomy(longs(1, 2, 3), 255), roomy(longs(1, 2), 0)
	checkReadRelas(t, table, relas, api.OK)
	checkReadEntries(t, ends, nil, api.ErrElf)
	if relas[:2][1] != rela(-1, 0, 0) || entries[:2][1] != entry(0, 0) || !bytes.Equal(table[:27], append(longs(1, 2, 3), 255, 255, 255)) {
		t.Error("the room behind")
	}
}

// TestP1TheSameAgain: what is answered hangs on nothing else, many times and side by side.
func TestP1TheSameAgain(t *testing.T) {
	f, i := some(), several()
	object, image := modelWrite(f), modelSave(i)
	done := make(chan bool)
	for range 8 {
		go func() {
			same := true
			for range 30 {
				b, e := elf.Write(f)
				g, h := elf.Read(object)
				same = same && e == api.OK && h == api.OK && bytes.Equal(b, object) && sameObject(g, sorted(f))
				b, e = elf.Save(i)
				j, h := elf.Open(image)
				same = same && e == api.OK && h == api.OK && bytes.Equal(b, image) && sameImage(i, j)
			}
			done <- same
		}()
	}
	for range 8 {
		if !<-done {
			t.Error("not the same again")
		}
	}
}
