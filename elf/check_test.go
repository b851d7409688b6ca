package elf_test

import (
	"fmt"
	"math"
	"slices"
	"testing"

	"gangway/api"
	"gangway/elf"
)

func TestP902MayBe(t *testing.T) {
	checkAnswer(t, api.File{}, api.OK)
	checkAnswer(t, some(), api.OK)
	checkAnswer(t, sorted(some()), api.OK)
	for _, kind := range []int{api.ProgBits, api.InitArray, api.FiniArray} {
		for flags := range 2048 {
			want := api.OK
			if flags&^(api.Write|api.Alloc|api.Exec|api.TlsFlag) != 0 {
				want = api.ErrElf
			}
			checkAnswer(t, object(section(".x", kind, flags, 4, "data")), want)
			checkAnswer(t, object(room(".x", flags, 4, 1)), want)
		}
	}
}

func TestP902Types(t *testing.T) {
	right := []int{api.ProgBits, api.NoBits, api.InitArray, api.FiniArray}
	for _, kind := range append(wild(), 2, 3, 4, 5, 6, 7, 8, 9, 10, 11, 12, 13, 14, 15, 16, 17, 257, 264, 1<<32+1) {
		want := api.ErrElf
		if slices.Contains(right, kind) {
			want = api.OK
		}
		checkAnswer(t, object(section(".x", kind, 0, 1, "")), want)
		if kind == api.NoBits {
			want = api.ErrElf
		}
		checkAnswer(t, object(section(".x", kind, 0, 1, "x")), want)
		checkAnswer(t, object(section(".x", kind, 0, 1, "", reloc(0, 0, "", 0))), want)
	}
}

func TestP902Flags(t *testing.T) {
	for bit := range 64 {
		want := api.ErrElf
		if bit < 3 || bit == 10 {
			want = api.OK
		}
		checkAnswer(t, object(section(".x", api.ProgBits, 1<<bit, 1, "")), want)
		checkAnswer(t, object(section(".x", api.ProgBits, 1<<bit|api.Alloc|api.TlsFlag, 1, "")), want)
	}
	for _, flags := range []int{-1, -2, math.MinInt, math.MaxInt, math.MinInt + 1, -1 << 32, 1<<32 + 2} {
		checkAnswer(t, object(section(".x", api.ProgBits, flags, 1, "")), api.ErrElf)
	}
}

func TestP902Names(t *testing.T) {
	for _, name := range []string{".rela", ".rela.text", ".relax", ".relaa", ".rela ", ".rela.rela", ".rela\xff", ".symtab", ".strtab", ".shstrtab", ".rela" + long(250)} {
		for _, s := range []api.Section{plain(name, "x"), plain(name, ""), room(name, 0, 1, 0)} {
			checkAnswer(t, object(s), api.ErrElf)
			checkAnswer(t, object(plain("a", ""), s, plain("b", "")), api.ErrElf)
		}
	}
	for _, name := range []string{".rel", ".rel.text", ".rel a", ".Rela", ".RELA", "rela", "rela.text", " .rela", "..rela", ".text.rela", ".symta", ".symtabs", ".symtab.", "symtab", ".SYMTAB", ".strta", ".strtab1", ".shstrta", ".shstrtabs", "shstrtab", ".dynstr", "**", "\xff", long(255)} {
		checkAnswer(t, object(plain(name, "x")), api.OK)
		checkAnswer(t, object(plain("a", ""), room(name, 0, 1, 5), plain("b", "")), api.OK)
	}
	f := object(plain("a", ""))
	f.Symbols = []api.Symbol{of(".rela.text", "a", api.Local), of(".symtab", "*", api.Global), of(".strtab", "", api.Weak)}
	checkAnswer(t, f, api.OK)
}

func TestP902Align(t *testing.T) {
	powers := []int{1, 2, 4, 8, 16, 32, 64, 128, 256, 512, 1024, 2048, 4096}
	for n := -2; n <= 8194; n++ {
		want := api.ErrElf
		if slices.Contains(powers, n) {
			want = api.OK
		}
		if got := elf.Check(object(section(".x", api.ProgBits, 0, n, "x"))); got != want {
			t.Fatalf("%d: %d; want %d", n, got, want)
		}
		if got := elf.Check(object(room(".x", 0, n, 1))); got != want {
			t.Fatalf("%d: %d; want %d", n, got, want)
		}
	}
	for bit := 13; bit < 64; bit++ {
		for _, n := range []int{1 << bit, 1<<bit + 1, 1<<bit - 1} {
			checkAnswer(t, object(section(".x", api.ProgBits, 0, n, "x")), api.ErrElf)
		}
	}
}

func TestP902Sizes(t *testing.T) {
	for _, kind := range []int{api.ProgBits, api.InitArray, api.FiniArray} {
		for _, data := range []string{"", "x", "12345678", long(300)} {
			for _, size := range append(wild(), len(data)-1, len(data), len(data)+1) {
				want := api.ErrElf
				if size == len(data) {
					want = api.OK
				}
				s := section(".x", kind, 0, 1, data)
				s.Size = size
				checkAnswer(t, object(s), want)
			}
		}
	}
	for _, size := range append(wild(), greatRoom-1, greatRoom, greatRoom+1, 2*greatRoom) {
		want := api.ErrElf
		if size >= 0 && size <= greatRoom {
			want = api.OK
		}
		checkAnswer(t, object(room(".x", 0, 1, size)), want)
		s := room(".x", 0, 1, size)
		s.Data = []byte{0}
		checkAnswer(t, object(s), api.ErrElf)
		s.Data, s.Relocs = nil, []api.Reloc{{}}
		checkAnswer(t, object(s), api.ErrElf)
		s.Data, s.Relocs = []byte{}, []api.Reloc{}
		checkAnswer(t, object(s), want)
	}
}

func TestP902Relocs(t *testing.T) {
	file := func(r api.Reloc) api.File {
		f := object(plain("a", "12345", reloc(0, 0, "", 0), r, reloc(5, 0, "l", 0)), plain("b", "123456789"))
		f.Symbols = []api.Symbol{of("g", "", api.Global), of("l", "a", api.Local), of("", "b", api.Local)}
		return f
	}
	for at := -2; at <= 11; at++ {
		want := api.ErrElf
		if at >= 0 && at <= 5 {
			want = api.OK
		}
		checkAnswer(t, file(reloc(at, 0, "", 0)), want)
	}
	for kind := -300; kind <= 600; kind++ {
		want := api.ErrElf
		if kind >= 0 && kind <= 255 {
			want = api.OK
		}
		checkAnswer(t, file(reloc(1, kind, "l", 0)), want)
	}
	for _, add := range append(wild(), greatAdd, greatAdd+1, greatAdd-1, -greatAdd, -greatAdd-1, 1-greatAdd) {
		want := api.ErrElf
		if add >= -greatAdd && add <= greatAdd {
			want = api.OK
		}
		checkAnswer(t, file(reloc(1, 2, "g", add)), want)
	}
	for _, n := range []int{math.MinInt, math.MinInt + 1, -1 << 32, 1 << 32, 1<<32 + 1, math.MaxInt} {
		checkAnswer(t, file(reloc(n, 0, "", 0)), api.ErrElf)
		checkAnswer(t, file(reloc(0, n, "", 0)), api.ErrElf)
	}
	for _, name := range []string{"", "g", "l"} {
		checkAnswer(t, file(reloc(1, 2, name, 0)), api.OK)
	}
	for _, name := range []string{"a", "b", "x", "G", "gg", "g\x00", " ", "*", long(255), long(256)} {
		checkAnswer(t, file(reloc(1, 2, name, 0)), api.ErrElf)
	}
	checkAnswer(t, object(plain("a", "x", reloc(0, 0, "g", 0))), api.ErrElf)
	checkAnswer(t, object(plain("a", "", reloc(0, 0, "", 0))), api.OK)
	checkAnswer(t, object(plain("a", "", reloc(1, 0, "", 0))), api.ErrElf)
}

func TestP902MaxSections(t *testing.T) {
	for n, want := range map[int]api.Errno{27: api.OK, 28: api.OK, 29: api.ErrSize, 30: api.ErrSize, 64: api.ErrSize, 65: api.ErrSize, 1000: api.ErrSize} {
		checkAnswer(t, object(numbered(n)...), want)
	}
	all := numbered(28)
	for k := range all {
		all[k] = plain(all[k].Name, "x", reloc(0, 1, "", 0))
	}
	checkAnswer(t, object(all...), api.OK)
}

func TestP902MaxRelocs(t *testing.T) {
	many := slices.Repeat([]api.Reloc{reloc(0, 1, "", 0)}, 4002)
	for n, want := range map[int]api.Errno{3999: api.OK, 4000: api.OK, 4001: api.ErrSize, 4002: api.ErrSize} {
		checkAnswer(t, object(plain("a", "", many[:n]...)), want)
		checkAnswer(t, object(plain("a", "", many[:n-1]...), plain("b", ""), plain("c", "", many[0])), want)
		checkAnswer(t, object(plain("a", "", many[:n/2]...), plain("b", "", many[:n-n/2]...)), want)
	}
	checkAnswer(t, object(plain("a", "", slices.Repeat(many, 100)...)), api.ErrSize)
}

// symbolsWrong: objects that symtab.Check does not take, with its error.
func symbolsWrong() map[string]struct {
	f api.File
	e api.Errno
} {
	type row = struct {
		f api.File
		e api.Errno
	}
	twice := object(plain("a", ""), plain("a", ""))
	nameless := object(plain("", ""))
	star := object(plain("*", ""))
	zero := object(plain("a\x00", ""))
	return map[string]row{
		"sections of one name":        {twice, api.ErrSymbol},
		"a section without a name":    {nameless, api.ErrSymbol},
		"a section *":                 {star, api.ErrSymbol},
		"a byte 0":                    {zero, api.ErrSymbol},
		"a section that is not there": {api.File{Symbols: []api.Symbol{of("a", "b", api.Local)}}, api.ErrSymbol},
		"an undefined Local one":      {api.File{Symbols: []api.Symbol{of("a", "", api.Local)}}, api.ErrSymbol},
		"a binding that is none":      {api.File{Symbols: []api.Symbol{of("a", "*", 3)}}, api.ErrSymbol},
		"symbols of one name":         {api.File{Symbols: []api.Symbol{of("a", "*", 1), of("a", "*", 2)}}, api.ErrSymbol},
		"too long a section's name":   {object(plain(long(256), "")), api.ErrSize},
		"too long a symbol's name":    {api.File{Symbols: []api.Symbol{of(long(256), "*", 0)}}, api.ErrSize},
		"too many symbols":            {api.File{Symbols: locals(2001)}, api.ErrSize},
	}
}

// TestP902ErrorsInOrder: symtab's error first; then too much; then all else, wherever it stands.
func TestP902ErrorsInOrder(t *testing.T) {
	bad := map[string]api.Section{
		"name":   plain(".rela", ""),
		"type":   section("bad", 2, 0, 1, ""),
		"flags":  section("bad", 1, 8, 1, ""),
		"align":  section("bad", 1, 0, 3, ""),
		"size":   {Name: "bad", Type: 1, Align: 1, Size: 1},
		"data":   section("bad", 8, 0, 1, "x"),
		"relocs": section("bad", 8, 0, 1, "", reloc(0, 0, "", 0)),
		"at":     plain("bad", "", reloc(1, 0, "", 0)),
		"kind":   plain("bad", "", reloc(0, 256, "", 0)),
		"add":    plain("bad", "", reloc(0, 0, "", greatAdd+1)),
		"symbol": plain("bad", "", reloc(0, 0, "nobody", 0)),
	}
	many := slices.Repeat([]api.Reloc{reloc(-1, -1, "nobody", 0)}, 4001)
	for why, s := range bad {
		t.Run(why, func(t *testing.T) {
			checkAnswer(t, object(s), api.ErrElf)
			checkAnswer(t, object(plain("ok", "x"), s, room("room", 0, 1, 1)), api.ErrElf)
			checkAnswer(t, object(append(numbered(28), s)...), api.ErrSize)
			checkAnswer(t, object(append([]api.Section{s}, numbered(28)...)...), api.ErrSize)
			checkAnswer(t, object(s, plain("ok", "", many...)), api.ErrSize)
			checkAnswer(t, object(s, section("ok", api.NoBits, 0, 1, "", many...)), api.ErrSize)
			for _, wrong := range symbolsWrong() {
				f := wrong.f
				f.Sections = append([]api.Section{s}, f.Sections...)
				checkAnswer(t, f, wrong.e)
				f.Sections = append(slices.Clone(f.Sections), plain("ok", "", many...))
				checkAnswer(t, f, wrong.e)
				f.Sections = append(f.Sections, numbered(29)...)
				checkAnswer(t, f, wrong.e)
			}
		})
	}
	for why, wrong := range symbolsWrong() {
		t.Run(why, func(t *testing.T) { checkAnswer(t, wrong.f, wrong.e) })
	}
}

// TestP902Fields: an object of all fields' values, as the model has it.
func TestP902Fields(t *testing.T) {
	for _, kind := range []int{0, 1, 8, 9, 14, 15, 16} {
		for _, flags := range []int{-1, 0, 3, 8, 1030} {
			for _, align := range []int{0, 1, 3, 16, 4096, 8192} {
				for _, data := range []string{"", "abc"} {
					for _, size := range []int{-1, 0, 3, 4, greatRoom} {
						for _, relocs := range [][]api.Reloc{nil, {reloc(3, 1, "x", 0)}, {reloc(0, 0, "", 1), reloc(4, 1, "x", 0)}} {
							s := api.Section{Name: "a", Type: kind, Flags: flags, Align: align, Data: []byte(data), Size: size, Relocs: relocs}
							f := api.File{Sections: []api.Section{s}, Symbols: []api.Symbol{of("x", "a", api.Weak)}}
							checkAnswer(t, f, modelCheck(f))
						}
					}
				}
			}
		}
	}
}

func wild() []int {
	l := []int{math.MinInt, math.MinInt + 1, -1 << 40, -1 << 32, -4096, -256, -2, -1, 0, 1, 2, 3, 4096, 1 << 31, 1<<32 - 1, 1 << 32, 1 << 40, 1<<40 + 1, 1 << 62, 1<<62 + 1, math.MaxInt - 1, math.MaxInt}
	return slices.Clip(l)
}

// eachObject: small ones, of which the sections' sizes, aligns and relocations go through all of a few.
func eachObject(f func(api.File)) {
	symbols := []api.Symbol{of("g", "", api.Global), of("x", "*", api.Weak), of("x", "s0", api.Local), of("", "*", api.Local), of("l", "*", api.Local)}
	var kinds []func(name string) api.Section
	for _, align := range []int{1, 2, 16, 128} {
		for _, data := range []string{"", "abc", "12345678"} {
			kinds = append(kinds, func(name string) api.Section { return section(name, api.ProgBits, api.Alloc, align, data) })
		}
		kinds = append(kinds, func(name string) api.Section { return room(name, api.Alloc, align, 5*align) })
	}
	for k, symbol := range []string{"", "g", "x", "l"} {
		kinds = append(kinds, func(name string) api.Section {
			return section(name, api.InitArray+k%2, api.Write, 8, "12345678", reloc(k, 10*k, symbol, -k), reloc(8, 1, "x", 1))
		})
	}
	var grow func(l []api.Section)
	grow = func(l []api.Section) {
		f(api.File{Sections: l, Symbols: symbols})
		if len(l) < 3 {
			for _, kind := range kinds {
				grow(append(slices.Clip(l), kind(fmt.Sprintf("s%d", max(len(l), 0)))))
			}
		}
	}
	grow([]api.Section{plain("s0", "0")})
}
