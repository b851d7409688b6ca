package elf_test

import (
	"bytes"
	"fmt"
	"slices"
	"strings"
	"testing"

	"gangway/api"
	"gangway/elf"
)

// greatAdd, greatAddress, greatRoom: the greatest that may be.
const (
	greatAdd     = 1 << 62
	greatAddress = 1 << 40
	greatRoom    = 1 << 30
	page         = 4096
	maxImage     = 16 << 20
)

// long: a name of so many bytes.
func long(n int) string { return strings.Repeat("n", n) }

// short: what fits into a line of it.
func short(x any) string {
	s := fmt.Sprintf("%+v", x)
	if len(s) > 400 {
		return s[:400] + ".."
	}
	return s
}

func symbol(name, section string, value, size, bind, kind int) api.Symbol {
	return api.Symbol{Name: name, Section: section, Value: value, Size: size, Bind: bind, Type: kind}
}

// of: a symbol at no place in particular.
func of(name, section string, bind int) api.Symbol { return symbol(name, section, 0, 0, bind, 0) }

func reloc(at, kind int, symbol string, add int) api.Reloc {
	return api.Reloc{At: at, Type: kind, Symbol: symbol, Add: add}
}

// section: of these bytes, with Relocs.
func section(name string, kind, flags, align int, data string, relocs ...api.Reloc) api.Section {
	return api.Section{Name: name, Type: kind, Flags: flags, Align: align, Data: []byte(data), Size: len(data), Relocs: relocs}
}

// plain: a section of which nothing else matters.
func plain(name, data string, relocs ...api.Reloc) api.Section {
	return section(name, api.ProgBits, api.Alloc, 1, data, relocs...)
}

// room: a section of NoBits.
func room(name string, flags, align, size int) api.Section {
	return api.Section{Name: name, Type: api.NoBits, Flags: flags, Align: align, Size: size}
}

func object(sections ...api.Section) api.File { return api.File{Sections: sections} }

// numbered: so many sections, unlike and empty.
func numbered(n int) []api.Section {
	var l []api.Section
	for k := range n {
		l = append(l, plain(fmt.Sprintf("s%d", k), ""))
	}
	return l
}

// locals: so many symbols of unlike names.
func locals(n int) []api.Symbol {
	var l []api.Symbol
	for k := range n {
		l = append(l, of(fmt.Sprintf("l%d", k), "*", api.Local))
	}
	return l
}

// some: an object with sections of each type, symbols of each binding, relocations of Local, of other and of no symbols.
func some() api.File {
	return api.File{
		Sections: []api.Section{
			section(".text", api.ProgBits, api.Alloc|api.Exec, 16, "\xe8\x01\x02\x03\x04\xc3\xc3", reloc(1, api.RPc32, "g", -4), reloc(3, api.R64, "x", 5), reloc(7, 255, "", -greatAdd)),
			room(".bss", api.Alloc|api.Write, 32, 100),
			section(".data", api.ProgBits, api.Alloc|api.Write, 1, "abc"),
			section(".init_array", api.InitArray, api.Alloc|api.Write, 8, "12345678", reloc(0, api.R64, "w", greatAdd)),
			section(".fini_array", api.FiniArray, api.Alloc|api.Write, 8, ""),
			section(".tdata", api.ProgBits, api.Alloc|api.Write|api.TlsFlag, 64, "t", reloc(0, 0, "v", 0)),
			room(".tbss", api.Alloc|api.Write|api.TlsFlag, 4, greatRoom),
			section(".debug_line", api.ProgBits, 0, 2, "lines", reloc(2, api.R64, "x", 0)),
		},
		Symbols: []api.Symbol{
			symbol("g", "", 0, 0, api.Global, api.NoType),
			symbol("x", ".data", 2, 1, api.Weak, api.Object),
			symbol("v", ".tdata", 0, 1, api.Local, api.Tls),
			symbol("", ".text", 0, 7, api.Local, api.Func),
			symbol("w", "*", 77, 0, api.Weak, api.NoType),
			symbol("x", ".text", 5, 0, api.Local, api.NoType),
			symbol("i", ".text", 6, 1, api.Global, api.Ifunc),
		},
	}
}

// sorted: the same object, its Local symbols first.
func sorted(f api.File) api.File {
	f.Symbols = slices.Clone(f.Symbols)
	slices.SortStableFunc(f.Symbols, func(a, b api.Symbol) int { return min(a.Bind, 1) - min(b.Bind, 1) })
	return f
}

// deep: a copy that shares nothing.
func deep(f api.File) api.File {
	f.Symbols = slices.Clone(f.Symbols)
	f.Sections = slices.Clone(f.Sections)
	for k := range f.Sections {
		s := &f.Sections[k]
		s.Data, s.Relocs = bytes.Clone(s.Data), slices.Clone(s.Relocs)
	}
	return f
}

// sameObject: nil and empty lists mean the same.
func sameObject(a, b api.File) bool {
	same := func(a, b api.Section) bool {
		fields := a.Name == b.Name && a.Type == b.Type && a.Flags == b.Flags && a.Align == b.Align && a.Size == b.Size
		return fields && bytes.Equal(a.Data, b.Data) && slices.Equal(a.Relocs, b.Relocs)
	}
	return slices.EqualFunc(a.Sections, b.Sections, same) && slices.Equal(a.Symbols, b.Symbols)
}

func sameImage(a, b elf.Image) bool {
	return a.Entry == b.Entry && slices.Equal(a.Segments, b.Segments) && slices.EqualFunc(a.Loads, b.Loads, bytes.Equal)
}

// checkAnswer: of Check; and Write answers the same error, with nothing beside it.
func checkAnswer(t *testing.T, f api.File, e api.Errno) {
	t.Helper()
	if got := elf.Check(f); got != e {
		t.Fatalf("Check(%s): %d; want %d", short(f), got, e)
	}
	if b, got := elf.Write(f); got != e || e != api.OK && len(b) != 0 {
		t.Fatalf("Write(%s): %d bytes, %d; want %d", short(f), len(b), got, e)
	}
}

func write(t *testing.T, f api.File) []byte {
	t.Helper()
	b, e := elf.Write(f)
	if e != api.OK {
		t.Fatalf("Write(%s): %d", short(f), e)
	}
	return b
}

func checkRead(t *testing.T, b []byte, f api.File, e api.Errno) {
	t.Helper()
	got, gotE := elf.Read(b)
	if !sameObject(got, f) || gotE != e {
		t.Fatalf("Read(%d bytes): %s, %d; want %s, %d", len(b), short(got), gotE, short(f), e)
	}
}

// checkRight: of Right; and Save answers the same error, with nothing beside it.
func checkRight(t *testing.T, i elf.Image, e api.Errno) {
	t.Helper()
	if got := elf.Right(i); got != e {
		t.Fatalf("Right(%s): %d; want %d", short(i), got, e)
	}
	if b, got := elf.Save(i); got != e || e != api.OK && len(b) != 0 {
		t.Fatalf("Save(%s): %d bytes, %d; want %d", short(i), len(b), got, e)
	}
}

func save(t *testing.T, i elf.Image) []byte {
	t.Helper()
	b, e := elf.Save(i)
	if e != api.OK {
		t.Fatalf("Save(%s): %d", short(i), e)
	}
	return b
}

func checkOpen(t *testing.T, b []byte, i elf.Image, e api.Errno) {
	t.Helper()
	got, gotE := elf.Open(b)
	if !sameImage(got, i) || gotE != e {
		t.Fatalf("Open(%d bytes): %s, %d; want %s, %d", len(b), short(got), gotE, short(i), e)
	}
}

func segment(kind, flags, addr, offset, size, memory, align int) api.Segment {
	return api.Segment{Type: kind, Flags: flags, Addr: addr, Offset: offset, Size: size, Memory: memory, Align: align}
}

// loaded: an image of these Loads, each with its Memory, at these addresses.
func loaded(addrs, memories []int, loads ...string) elf.Image {
	i := elf.Image{Entry: addrs[0]}
	offset := page
	for k, load := range loads {
		i.Segments = append(i.Segments, segment(1, 5, addrs[k], offset, len(load), memories[k], page))
		i.Loads = append(i.Loads, []byte(load))
		offset = (offset + len(load) + page - 1) / page * page
	}
	return i
}

// with: segments behind the others.
func with(i elf.Image, l ...api.Segment) elf.Image {
	i.Segments = append(slices.Clone(i.Segments), l...)
	return i
}

// several: an image of three Loads, the last one with Memory behind its bytes, and segments within them.
func several() elf.Image {
	i := loaded([]int{4096, 8192, 20480}, []int{7, 3, 9000}, "rodata.", "\x90\x90\xc3", "data!")
	i.Entry = 8194
	i.Segments[0].Flags, i.Segments[2].Flags = 4, 6
	return with(i,
		segment(7, 4, 20481, 12289, 4, 100, 64),
		segment(2, 6, 20480, 12288, 5, 5, 8),
		segment(1685382480, 4, 4100, 4100, 3, 3, 4),
		segment(7, 4, 20480+8999, 12288+8999, 0, 1, 1))
}

// scratch: overwrites all that a list has, and the room behind it.
func scratch[T any](l []T, with T) {
	for k := range l[:cap(l)] {
		l[:cap(l)][k] = with
	}
}
