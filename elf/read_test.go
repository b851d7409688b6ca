package elf_test

import (
	"bytes"
	"fmt"
	"slices"
	"strings"
	"testing"

	"gangway/api"
	"gangway/elf"
)

func refused(t *testing.T, b []byte) {
	t.Helper()
	checkRead(t, b, api.File{}, api.ErrElf)
}

// small: an object with little of everything.
func small() api.File {
	return api.File{
		Sections: []api.Section{
			section(".text", api.ProgBits, api.Alloc|api.Exec, 4, "\xe8\x00\xc3", reloc(1, api.RPc32, "g", -4), reloc(0, 1, "a", 0)),
			room(".bss", api.Alloc|api.Write, 16, 40),
			section(".init_array", api.InitArray, api.Alloc|api.Write, 8, "12345678", reloc(0, api.R64, "", 9)),
		},
		Symbols: []api.Symbol{symbol("a", ".text", 1, 2, api.Local, api.Func), of("", "*", api.Local), of("g", "", api.Global)},
	}
}

func TestP904Read(t *testing.T) {
	checkRead(t, write(t, api.File{}), api.File{}, api.OK)
	checkRead(t, write(t, small()), small(), api.OK)
	checkRead(t, write(t, some()), sorted(some()), api.OK)
	checkRead(t, modelWrite(some()), sorted(some()), api.OK)
}

func TestP904MaxBytes(t *testing.T) {
	empty := len(write(t, object(plain("a", ""))))
	f := object(plain("a", strings.Repeat("d", (api.MaxBytes-empty)/8*8)))
	b := write(t, f)
	if len(b) != api.MaxBytes {
		t.Fatal(len(b))
	}
	checkRead(t, b, f, api.OK)
	checkRead(t, append(bytes.Clone(b), 0), api.File{}, api.ErrSize)
	checkRead(t, append(bytes.Clone(b), b...), api.File{}, api.ErrSize)
	refused(t, b[:len(b)-1])
	for n, want := range map[int]api.Errno{0: api.ErrElf, 1: api.ErrElf, 64: api.ErrElf, api.MaxBytes: api.ErrElf, api.MaxBytes + 1: api.ErrSize, 20 * api.MaxBytes: api.ErrSize} {
		checkRead(t, make([]byte, n), api.File{}, want)
		checkRead(t, bytes.Repeat([]byte{255}, n), api.File{}, want)
	}
	// As large as it would be, it is not written: it may not be read.
	larger := modelWrite(object(plain("a", strings.Repeat("d", (api.MaxBytes-empty)/8*8+8))))
	checkRead(t, larger, api.File{}, api.ErrSize)
}

// turns: by which a byte becomes another one: all of them, or some.
func turns(all bool) []byte {
	var l []byte
	for turned := 1; turned < 256; turned++ {
		if all || turned&(turned-1) == 0 || turned%61 == 0 || turned == 255 {
			l = append(l, byte(turned))
		}
	}
	return l
}

// TestP904EachByte: each byte as other ones. What another object's bytes are is read as that; all else is refused.
func TestP904EachByte(t *testing.T) {
	for _, f := range []api.File{{}, object(plain("a", "x")), small(), some()} {
		b := write(t, f)
		right := 0
		for k, was := range b {
			for _, turned := range turns(len(f.Sections) == 0) {
				b[k] = was ^ turned
				want, e := modelRead(b)
				checkRead(t, b, want, e)
				if e == api.OK {
					right++
				}
			}
			b[k] = was
		}
		if (right == 0) != (len(f.Sections) == 0) {
			t.Errorf("%d other objects", right)
		}
	}
}

// TestP904EachField: by hand: what may be another one, and what may not.
func TestP904EachField(t *testing.T) {
	b := write(t, small())
	heads := get(b, 40, 8)
	change := func(at int, value byte) []byte {
		other := bytes.Clone(b)
		other[at] = value
		return other
	}
	for _, c := range []struct {
		at    int
		value byte
		to    func(*api.File)
	}{
		{64, 'x', func(f *api.File) { f.Sections[0].Data[0] = 'x' }},
		{79, 'y', func(f *api.File) { f.Sections[2].Data[7] = 'y' }},
		{80, 3, func(f *api.File) { f.Sections[0].Relocs[0].At = 3 }},
		{88, 255, func(f *api.File) { f.Sections[0].Relocs[0].Type = 255 }},
		{92, 0, func(f *api.File) { f.Sections[0].Relocs[0].Symbol = "" }},
		{92, 1, func(f *api.File) { f.Sections[0].Relocs[0].Symbol = "a" }},
		{96, 7, func(f *api.File) { f.Sections[0].Relocs[0].Add = -249 }},
		{heads + 64 + 8, 1, func(f *api.File) { f.Sections[0].Flags = 1 }},
		{heads + 64 + 48, 64, func(f *api.File) { f.Sections[0].Align = 64 }},
		{heads + 128 + 32, 41, func(f *api.File) { f.Sections[1].Size = 41 }},
		{heads + 192 + 4, 15, func(f *api.File) { f.Sections[2].Type = 15 }},
	} {
		want := small()
		c.to(&want)
		checkRead(t, change(c.at, c.value), want, api.OK)
	}
	for at, value := range map[int]byte{
		0: 126, 1: 'e', 4: 1, 5: 2, 6: 0, 7: 1, 15: 1, 16: 2, 16 + 1: 1, 18: 3, 20: 2, 24: 1, 32: 64, 40: 0, 48: 1, 52: 63, 54: 56, 56: 1, 58: 63, 60: 10, 61: 1, 62: 9, 63: 1, // the file's head
		67: 1, heads - 1: 1, // between parts, and behind the names
		80: 4, 89: 1, 92: 2, 95: 128, 103: 127, // an At past the end, a Type above 255, a symbol without a name, one that is not there, an Add that is too low
	} {
		refused(t, change(at, value))
	}
	// Of heads: the first one; .text; .bss; .init_array; their two tables; .symtab; .strtab; .shstrtab.
	for k, row := range []map[int]byte{
		{0: 1, 4: 1, 31: 1, 48: 1, 63: 1},
		{0: 2, 1: 1, 3: 255, 4: 2, 7: 1, 10: 1, 16: 1, 23: 1, 24: 68, 31: 255, 32: 2, 39: 255, 40: 1, 44: 1, 48: 3, 55: 128, 56: 8},
		{0: 200, 4: 1, 8: 8, 9: 1, 16: 1, 24: 64, 35: 128, 40: 1, 44: 1, 48: 0, 49: 32, 63: 1},
		{0: 1, 4: 8, 9: 8, 16: 1, 24: 80, 32: 7, 40: 1, 44: 1, 48: 5, 56: 0},
		{0: 0, 4: 1, 8: 0, 20: 1, 24: 0, 32: 24, 40: 7, 44: 3, 45: 1, 48: 1, 49: 1, 56: 0},
		{0: 0, 4: 8, 8: 0, 16: 1, 24: 0, 32: 0, 39: 255, 40: 5, 44: 0, 48: 4, 56: 8},
		{0: 0, 4: 8, 9: 1, 16: 1, 24: 0, 32: 24, 39: 128, 40: 8, 44: 2, 48: 4, 56: 0},
		{0: 0, 4: 2, 8: 1, 16: 1, 24: 255, 32: 4, 40: 1, 44: 1, 48: 0, 49: 1, 56: 1},
		{0: 0, 4: 2, 8: 1, 16: 1, 24: 255, 31: 128, 32: 1, 40: 1, 44: 1, 48: 2, 63: 255},
	} {
		for at, value := range row {
			if b[heads+64*k+at] == value {
				t.Fatalf("%d of %d is %d", at, k, value)
			}
			refused(t, change(heads+64*k+at, value))
		}
	}
}

func TestP904Order(t *testing.T) {
	// A table of symbols in which a Local one stands behind another one is never written.
	f := api.File{Symbols: []api.Symbol{of("l", "*", api.Local), of("m", "*", api.Local)}}
	b := write(t, f)
	at := head(b, 1)[4]
	b[at+24+4] = 16
	refused(t, b)
	f = some()
	want := sorted(f)
	for range len(f.Symbols) {
		f.Symbols = append(f.Symbols[1:], f.Symbols[0])
		want = sorted(f)
		checkRead(t, write(t, f), want, api.OK)
	}
}

// TestP904Twice: a relocation that tells another symbol than the one that its name means is never written.
func TestP904Twice(t *testing.T) {
	f := object(plain("a", "x", reloc(0, 1, "x", 0)))
	f.Symbols = []api.Symbol{of("", "*", api.Local), of("x", "*", api.Local), of("x", "*", api.Global), of("y", "*", api.Global)}
	b := write(t, f)
	for number := range 300 {
		b[72+12], b[72+13] = byte(number), byte(number>>8)
		name := ""
		switch number {
		case 0:
		case 2:
			name = "x"
		case 4:
			name = "y"
		default:
			refused(t, b)
			continue
		}
		want := deep(f)
		want.Sections[0].Relocs[0].Symbol = name
		checkRead(t, b, want, api.OK)
	}
	b[72+13] = 0
	for _, number := range []byte{0, 2, 4} {
		for at := 13; at < 16; at++ {
			for _, high := range []byte{1, 127, 128, 255} {
				other := bytes.Clone(b)
				other[72+12], other[72+at] = number, high
				refused(t, other)
			}
		}
	}
}

// TestP904Sections: bytes as the model writes them of sections that may not be.
func TestP904Sections(t *testing.T) {
	wrong := []api.File{
		object(numbered(29)...),
		object(plain(".rela", "")),
		object(plain(".rela.text", "x")),
		object(plain(".relax", "x"), plain("a", "b", reloc(0, 0, "", 0))),
		object(plain(".symtab", "")),
		object(plain(".strtab", "")),
		object(plain(".shstrtab", "")),
		object(plain("a", ""), plain("a", "")),
		object(section("a", 2, 0, 1, "x")),
		object(section("a", 0, 0, 1, "x")),
		object(section("a", 1, 8, 1, "x")),
		object(section("a", 1, -1, 1, "x")),
		object(section("a", 1, 0, 3, "x")),
		object(section("a", 1, 0, 8192, "x")),
		object(room("a", 0, 1, greatRoom+1)),
		object(room("a", 0, 1, -1)),
		object(plain("a", "x", reloc(2, 0, "", 0))),
		object(plain("a", "x", reloc(-1, 0, "", 0))),
		object(plain("a", "x", reloc(0, 256, "", 0))),
		object(plain("a", "x", reloc(0, 0, "", greatAdd+1))),
		object(plain("a", "x", reloc(0, 0, "", -greatAdd-1))),
		object(plain("a", "x", slices.Repeat([]api.Reloc{reloc(0, 0, "", 0)}, 4001)...)),
		object(plain("a", "x", slices.Repeat([]api.Reloc{reloc(0, 0, "", 0)}, 4000)...), plain("b", "", reloc(0, 0, "", 0))),
		object(plain(long(256), "x")),
		object(plain(long(251), "x", reloc(0, 0, "", 0))),
	}
	for _, f := range wrong {
		refused(t, modelWrite(f))
	}
	for _, f := range []api.File{
		object(numbered(28)...),
		object(plain(".rel", ""), plain("symtab", "")),
		object(room("a", 0, 4096, greatRoom)),
		object(plain("a", "x", slices.Repeat([]api.Reloc{reloc(1, 255, "", greatAdd)}, 4000)...)),
		object(plain("a", "x", slices.Repeat([]api.Reloc{reloc(1, 255, "", -greatAdd)}, 3999)...), plain("b", "", reloc(0, 0, "", 0))),
		object(plain(long(255), "x")),
		object(plain(long(250), "x", reloc(0, 0, "", 0))),
	} {
		checkRead(t, modelWrite(f), f, api.OK)
	}
}

// TestP904Shapes: files of which the parts stand otherwise than they would be written.
func TestP904Shapes(t *testing.T) {
	b := write(t, small())
	heads := get(b, 40, 8)
	// The heads once more behind the end, and told there; and as many of them as may not be.
	other := append(bytes.Clone(b), b[heads:]...)
	copy(other[40:], bytesOf(8, len(b)))
	refused(t, other)
	for _, count := range []int{0, 1, 2, 3, 4, 8, 10, 59, 60, 61, 255, 256, 65535} {
		other := append(bytes.Clone(b), make([]byte, 64*64)...)
		copy(other[60:], bytesOf(2, count, count-1))
		refused(t, other)
		refused(t, other[:len(b)])
	}
	for _, at := range append(wild(), heads-64, heads-8, heads+8, heads+64, len(b), len(b)-64) {
		other := bytes.Clone(b)
		copy(other[40:], bytesOf(8, at))
		refused(t, other)
	}
	// Two heads in another order; one twice; one left out.
	for k := 1; k < 8; k++ {
		other := bytes.Clone(b)
		copy(other[heads+64*k:], b[heads+64*(k+1):heads+64*(k+2)])
		refused(t, other)
		copy(other[heads+64*(k+1):], b[heads+64*k:heads+64*(k+1)])
		refused(t, other)
		other = slices.Delete(bytes.Clone(b), heads+64*k, heads+64*(k+1))
		copy(other[60:], bytesOf(2, 8, 7))
		refused(t, other)
		other = slices.Insert(bytes.Clone(b), heads+64*k, b[heads+64*k:heads+64*(k+1)]...)
		copy(other[60:], bytesOf(2, 10, 9))
		refused(t, other)
	}
}

// TestP904Numbers: each number of each head as each wild one.
func TestP904Numbers(t *testing.T) {
	b := write(t, small())
	heads := get(b, 40, 8)
	for k := range 9 {
		for _, field := range [][2]int{{0, 4}, {4, 4}, {8, 8}, {16, 8}, {24, 8}, {32, 8}, {40, 4}, {44, 4}, {48, 8}, {56, 8}} {
			for _, n := range append(wild(), len(b), len(b)-1, heads, 8, 24) {
				other := bytes.Clone(b)
				copy(other[heads+64*k+field[0]:], bytesOf(field[1], n))
				want, e := modelRead(other)
				checkRead(t, other, want, e)
			}
		}
	}
}

func checkBack(t *testing.T, f api.File) {
	t.Helper()
	b := write(t, f)
	checkRead(t, b, sorted(f), api.OK)
	got, _ := elf.Read(b)
	if again := write(t, got); !bytes.Equal(again, b) {
		t.Fatalf("%s: not the same bytes again", short(f))
	}
}

func TestP906Objects(t *testing.T) {
	checkBack(t, api.File{})
	checkBack(t, some())
	n := 0
	eachObject(func(f api.File) {
		if n++; n%3 == 1 {
			checkBack(t, f)
		}
	})
	for align := 1; align <= 4096; align *= 2 {
		for _, kind := range []int{api.ProgBits, api.InitArray, api.FiniArray} {
			checkBack(t, object(section("a", kind, api.Write, align, "abc"), room("b", api.TlsFlag, align, align), section("c", kind, 0, align, "")))
		}
	}
}

func TestP906Most(t *testing.T) {
	f := object(numbered(28)...)
	f.Symbols = locals(2000)
	for k := range f.Symbols {
		f.Symbols[k].Bind = k % 3
		f.Symbols[k].Section = fmt.Sprintf("s%d", k%28)
	}
	for k := range f.Sections {
		s := &f.Sections[k]
		*s = section(s.Name, api.ProgBits, 0, 1<<(k%13), strings.Repeat("d", 100*k))
		for n := range 142 {
			s.Relocs = append(s.Relocs, reloc(n*k%(s.Size+1), n, fmt.Sprintf("l%d", 71*n%2000), n-k))
		}
	}
	checkBack(t, f)
}

// TestP907Objects: less, from either end, and more.
func TestP907Objects(t *testing.T) {
	for _, f := range []api.File{{}, small(), some()} {
		b := write(t, f)
		for n := range len(b) {
			refused(t, b[:n])
			refused(t, b[n+1:])
			if n%5 == 0 {
				refused(t, slices.Delete(bytes.Clone(b), n, n+1))
				refused(t, slices.Insert(bytes.Clone(b), n, 0))
			}
		}
		for x := range 256 {
			refused(t, append(bytes.Clone(b), byte(x)))
			refused(t, append([]byte{byte(x)}, b...))
		}
		refused(t, append(bytes.Clone(b), make([]byte, 64)...))
		refused(t, append(bytes.Clone(b), b...))
	}
}
