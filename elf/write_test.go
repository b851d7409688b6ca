package elf_test

import (
	"bytes"
	std "debug/elf"
	"fmt"
	"io"
	"slices"
	"strings"
	"testing"

	"gangway/api"
	"gangway/elf"
	"gangway/symtab"
)

// zeros: of so many bytes.
func zeros(n int) string { return strings.Repeat("\x00", n) }

// number: one long, written out.
func number(low string) string { return low + zeros(8-len(low)) }

// fileHead: by hand: of an object, with where the heads begin, how many there are, the last one's number.
func fileHead(heads, count, last string) string {
	return "\x7fELF\x02\x01\x01" + zeros(9) + "\x01\x00\x3e\x00" + "\x01\x00\x00\x00" + zeros(16) + number(heads) + zeros(4) +
		"\x40\x00" + "\x00\x00" + "\x00\x00" + "\x40\x00" + count + "\x00" + last + "\x00"
}

func checkWrite(t *testing.T, f api.File, want string) {
	t.Helper()
	got := write(t, f)
	for k := range min(len(got), len(want)) {
		if got[k] != want[k] {
			t.Fatalf("Write(%s): at %d %d; want %d", short(f), k, got[k], want[k])
		}
	}
	if len(got) != len(want) {
		t.Fatalf("Write(%s): %d bytes; want %d", short(f), len(got), len(want))
	}
}

func TestP903Nothing(t *testing.T) {
	want := fileHead("\x78", "\x04", "\x03") + zeros(24) + "\x00" + "\x00.symtab\x00.strtab\x00.shstrtab\x00" + zeros(4) +
		zeros(64) +
		"\x01\x00\x00\x00\x02\x00\x00\x00" + zeros(16) + number("\x40") + number("\x18") + "\x02\x00\x00\x00\x01\x00\x00\x00" + number("\x08") + number("\x18") +
		"\x09\x00\x00\x00\x03\x00\x00\x00" + zeros(16) + number("\x58") + number("\x01") + zeros(8) + number("\x01") + number("") +
		"\x11\x00\x00\x00\x03\x00\x00\x00" + zeros(16) + number("\x59") + number("\x1b") + zeros(8) + number("\x01") + number("")
	if len(want) != 376 {
		t.Fatal(len(want))
	}
	checkWrite(t, api.File{}, want)
	checkWrite(t, api.File{Sections: []api.Section{}, Symbols: []api.Symbol{}}, want)
}

// TestP903ByHand: one section with two relocations, one of NoBits behind it, and two symbols.
func TestP903ByHand(t *testing.T) {
	f := api.File{
		Sections: []api.Section{
			section(".text", api.ProgBits, api.Alloc|api.Exec, 16, "\xe8\x00\x00\x00\x00", reloc(1, api.RPc32, "g", -4), reloc(5, 255, "a", greatAdd)),
			room(".bss", api.Alloc|api.Write|api.TlsFlag, 4096, 0x12345678),
		},
		Symbols: []api.Symbol{of("g", "", api.Global), symbol("a", ".text", 2, 3, api.Local, api.Func)},
	}
	syms, strs, first, _ := symtab.Write(f.Symbols, []string{".text", ".bss"})
	names := "\x00.text\x00.bss\x00.rela.text\x00.symtab\x00.strtab\x00.shstrtab\x00"
	if len(syms) != 72 || len(strs) != 5 || first != 2 || len(names) != 49 {
		t.Fatal(len(syms), len(strs), first, len(names))
	}
	// 64 .text 69, 72 .rela.text 120 .symtab 192 .strtab 197 .shstrtab 246, 248 the heads.
	want := fileHead("\xf8", "\x07", "\x06") + "\xe8\x00\x00\x00\x00" + zeros(3) +
		number("\x01") + "\x02\x00\x00\x00\x02\x00\x00\x00" + "\xfc\xff\xff\xff\xff\xff\xff\xff" +
		number("\x05") + "\xff\x00\x00\x00\x01\x00\x00\x00" + "\x00\x00\x00\x00\x00\x00\x00\x40" +
		string(syms) + string(strs) + names + zeros(2) +
		zeros(64) +
		"\x01\x00\x00\x00\x01\x00\x00\x00" + number("\x06") + number("") + number("\x40") + number("\x05") + zeros(8) + number("\x10") + number("") +
		"\x07\x00\x00\x00\x08\x00\x00\x00" + number("\x03\x04") + number("") + number("\x00\x10") + number("\x78\x56\x34\x12") + zeros(8) + number("\x00\x10") + number("") +
		"\x0c\x00\x00\x00\x04\x00\x00\x00" + number("\x40") + number("") + number("\x48") + number("\x30") + "\x04\x00\x00\x00\x01\x00\x00\x00" + number("\x08") + number("\x18") +
		"\x17\x00\x00\x00\x02\x00\x00\x00" + zeros(16) + number("\x78") + number("\x48") + "\x05\x00\x00\x00\x02\x00\x00\x00" + number("\x08") + number("\x18") +
		"\x1f\x00\x00\x00\x03\x00\x00\x00" + zeros(16) + number("\xc0") + number("\x05") + zeros(8) + number("\x01") + number("") +
		"\x27\x00\x00\x00\x03\x00\x00\x00" + zeros(16) + number("\xc5") + number("\x31") + zeros(8) + number("\x01") + number("")
	checkWrite(t, f, want)
}

// head: of so many heads of an object the numbers of one: where its name begins, its type; flags, 0, where it begins, its size; link, info; align, its entries' size.
func head(b []byte, k int) [10]int {
	var l [10]int
	at := get(b, 40, 8) + 64*k
	for n, size := range []int{4, 4, 8, 8, 8, 8, 4, 4, 8, 8} {
		l[n] = get(b, at, size)
		at += size
	}
	return l
}

func get(b []byte, at, size int) int {
	n := 0
	for k := size - 1; k >= 0; k-- {
		n = n<<8 | int(b[at+k])
	}
	return n
}

// TestP903NoBits: it takes no room, but it begins at a multiple; what has no bytes but is not of NoBits begins there, with bytes 0 ahead of it.
func TestP903NoBits(t *testing.T) {
	b := write(t, object(plain("a", "x"), room("b", 0, 64, 1000), plain("c", "y"), room("d", 0, 1, 9), section("e", api.ProgBits, 0, 32, ""), plain("f", "z")))
	for k, want := range []int{64, 128, 65, 66, 96, 96} {
		if got := head(b, k+1)[4]; got != want {
			t.Errorf("%d: %d; want %d", k, got, want)
		}
	}
	if b[64] != 'x' || b[65] != 'y' || b[96] != 'z' || string(b[66:96]) != zeros(30) {
		t.Errorf("% x", b[64:100])
	}
}

func TestP903EntrySizes(t *testing.T) {
	for kind, want := range map[int]int{api.ProgBits: 0, api.NoBits: 0, api.InitArray: 8, api.FiniArray: 8} {
		for _, align := range []int{1, 8, 4096} {
			b := write(t, object(section("a", kind, 0, align, "")))
			if h := head(b, 1); h[1] != kind || h[8] != align || h[9] != want {
				t.Errorf("%d: %d", kind, h)
			}
		}
	}
}

// TestP903Tables: those of sections that have relocations, in their order, each with the section's number.
func TestP903Tables(t *testing.T) {
	one, two := reloc(0, 1, "", 0), reloc(1, 2, "l", 0)
	f := object(plain("a", "x"), plain("b", "y", one), room("c", 0, 1, 1), plain("d", "z", two, one), plain("e", ""))
	f.Symbols = []api.Symbol{of("l", "*", api.Local)}
	b := write(t, f)
	if get(b, 60, 2) != 11 || get(b, 62, 2) != 10 {
		t.Fatal(get(b, 60, 2), get(b, 62, 2))
	}
	for k, want := range map[int][10]int{
		6: {11, 4, 64, 0, 72, 24, 8, 2, 8, 24},
		7: {18, 4, 64, 0, 96, 48, 8, 4, 8, 24},
		8: {25, 2, 0, 0, 144, 48, 9, 2, 8, 24},
		9: {33, 3, 0, 0, 192, 3, 0, 0, 1, 0},
	} {
		if got := head(b, k); got != want {
			t.Errorf("%d: %d; want %d", k, got, want)
		}
	}
}

// TestP903Symbols: a relocation's symbol by its number in the table: Local ones stand first, and are meant; the empty name is none.
func TestP903Symbols(t *testing.T) {
	f := object(plain("a", "x"))
	f.Symbols = []api.Symbol{of("g", "", api.Global), of("x", "", api.Weak), of("", "*", api.Local), of("l", "*", api.Local), of("h", "*", api.Global), of("x", "*", api.Local), of("l", "*", api.Weak), of("z", "a", api.Local)}
	for name, want := range map[string]int{"": 0, "l": 2, "x": 3, "z": 4, "g": 5, "h": 7} {
		f.Sections[0].Relocs = []api.Reloc{reloc(1, 77, name, -2)}
		b := write(t, f)
		if got := [4]int{get(b, 72, 8), get(b, 80, 4), get(b, 84, 4), get(b, 88, 8)}; got != [4]int{1, 77, want, -2} {
			t.Errorf("%q: %d; want %d", name, got, want)
		}
	}
	f.Symbols = locals(2000)
	f.Sections[0].Relocs = []api.Reloc{reloc(0, 255, "l1999", 0)}
	if b := write(t, f); get(b, 80, 8) != 2000<<32+255 {
		t.Errorf("%x", get(b, 80, 8))
	}
}

// TestP903Aligns: each section at the next multiple of its Align, bytes 0 between.
func TestP903Aligns(t *testing.T) {
	for align := 1; align <= 4096; align *= 2 {
		for ahead := range 130 {
			f := object(plain("a", strings.Repeat("a", ahead)), section("b", api.ProgBits, 0, align, "bytes"))
			b := write(t, f)
			want := (64 + ahead + align - 1) / align * align
			if got := head(b, 2)[4]; got != want || string(b[want:want+5]) != "bytes" || string(b[64+ahead:want]) != zeros(want-64-ahead) {
				t.Fatalf("%d, %d: %d; want %d", align, ahead, got, want)
			}
		}
	}
}

func TestP903Model(t *testing.T) {
	checkWrite(t, some(), string(modelWrite(some())))
	n := 0
	eachObject(func(f api.File) {
		n++
		if n%3 == 0 {
			checkWrite(t, f, string(modelWrite(f)))
		}
	})
	most := object(numbered(28)...)
	most.Symbols = locals(2000)
	for k := range most.Sections {
		s := &most.Sections[k]
		*s = section(s.Name, api.ProgBits, 0, 1<<(k%13), strings.Repeat("d", 100*k))
		for n := range 142 {
			s.Relocs = append(s.Relocs, reloc(n*k%(s.Size+1), n, fmt.Sprintf("l%d", 71*n%2000), n-k))
		}
	}
	checkWrite(t, most, string(modelWrite(most)))
}

// TestP903MaxBytes: as many bytes as may be; and eight more, since there are always a multiple of 8.
func TestP903MaxBytes(t *testing.T) {
	empty := len(write(t, object(plain("a", ""))))
	for _, n := range []int{api.MaxBytes - 8, api.MaxBytes - 7, api.MaxBytes - 1, api.MaxBytes, api.MaxBytes + 1, api.MaxBytes + 8, 3 * api.MaxBytes} {
		f := object(plain("a", strings.Repeat("d", n-empty)))
		want, wantE := len(modelWrite(f)), api.OK
		if want > api.MaxBytes {
			want, wantE = 0, api.ErrSize
		}
		if b, e := elf.Write(f); len(b) != want || e != wantE || elf.Check(f) != api.OK {
			t.Errorf("%d: %d bytes, %d; want %d, %d", n, len(b), e, want, wantE)
		}
	}
	room := (api.MaxBytes - empty) / 8 * 8
	if b, e := elf.Write(object(plain("a", strings.Repeat("d", room)))); len(b) != api.MaxBytes || e != api.OK {
		t.Errorf("%d bytes, %d", len(b), e)
	}
	f := object(plain("a", strings.Repeat("d", room+8)))
	if b, e := elf.Write(f); len(b) != 0 || e != api.ErrSize {
		t.Errorf("%d bytes, %d", len(b), e)
	}
	// What may not be is told ahead of that.
	f.Sections[0].Align = 3
	checkAnswer(t, f, api.ErrElf)
	f.Symbols = []api.Symbol{of("a", "", api.Local)}
	checkAnswer(t, f, api.ErrSymbol)
}

// TestP903MuchOfNoBits: it counts for nothing.
func TestP903MuchOfNoBits(t *testing.T) {
	var l []api.Section
	for k := range 28 {
		l = append(l, room(fmt.Sprintf("b%d", k), api.Alloc, 4096, greatRoom))
	}
	b := write(t, object(l...))
	if len(b) != len(modelWrite(object(l...))) || len(b) > 4096 {
		t.Error(len(b))
	}
}

// TestP903LongNames: the name of a section's table has five bytes more, and may be too long for a table of names.
func TestP903LongNames(t *testing.T) {
	for n, want := range map[int]api.Errno{249: api.OK, 250: api.OK, 251: api.ErrSize, 255: api.ErrSize} {
		f := object(plain(long(n), "x", reloc(0, 0, "", 0)))
		if e := elf.Check(f); e != api.OK {
			t.Errorf("%d: %d", n, e)
		}
		if b, e := elf.Write(f); e != want || (len(b) == 0) != (e != api.OK) {
			t.Errorf("%d: %d bytes, %d", n, len(b), e)
		}
	}
	checkWrite(t, object(plain(long(255), "x")), string(modelWrite(object(plain(long(255), "x")))))
}

// TestP908Data: each section's stand where its head says.
func TestP908Data(t *testing.T) {
	check := func(f api.File) {
		b := write(t, f)
		for k, s := range f.Sections {
			h := head(b, k+1)
			if h[1] != s.Type || h[5] != s.Size || h[4]%s.Align != 0 {
				t.Fatalf("%s: %d", short(s), h)
			}
			if s.Type != api.NoBits && !bytes.Equal(b[h[4]:h[4]+h[5]], s.Data) {
				t.Fatalf("%s: % x", short(s), b[h[4]:h[4]+h[5]])
			}
		}
	}
	check(some())
	n := 0
	eachObject(func(f api.File) {
		if n++; n%7 == 0 {
			check(f)
		}
	})
}

// TestP908OtherReader: what another reader of such files makes of one.
func TestP908OtherReader(t *testing.T) {
	f := sorted(some())
	x, err := std.NewFile(bytes.NewReader(write(t, f)))
	if err != nil {
		t.Fatal(err)
	}
	if x.Class != std.ELFCLASS64 || x.Type != std.ET_REL || x.Machine != std.EM_X86_64 {
		t.Error(x.FileHeader)
	}
	for _, s := range f.Sections {
		got := x.Section(s.Name)
		if got == nil || int(got.Size) != s.Size || int(got.Type) != s.Type || int(got.Flags) != s.Flags || int(got.Addralign) != s.Align {
			t.Fatalf("%s: %+v", s.Name, got)
		}
		if s.Type == api.NoBits {
			continue
		}
		data, err := io.ReadAll(got.Open())
		if err != nil || !bytes.Equal(data, s.Data) {
			t.Errorf("%s: %q, %v", s.Name, data, err)
		}
		if table := x.Section(".rela" + s.Name); (table != nil) != (len(s.Relocs) > 0) || table != nil && (x.Sections[table.Info] != got || x.Sections[table.Link].Name != ".symtab") {
			t.Errorf("%s: %+v", s.Name, table)
		}
	}
	symbols, err := x.Symbols()
	if err != nil || len(symbols) != len(f.Symbols) {
		t.Fatal(len(symbols), err)
	}
	for k, s := range f.Symbols {
		if got := symbols[k]; got.Name != s.Name || int(got.Value) != s.Value || int(got.Size) != s.Size || int(got.Info) != 16*s.Bind+s.Type {
			t.Errorf("%+v: %+v", s, got)
		}
	}
	if !slices.ContainsFunc(x.Sections, func(s *std.Section) bool { return s.Name == ".shstrtab" }) {
		t.Error("no table of names")
	}
}
