package resolve_test

import (
	"math"
	"slices"
	"testing"

	"gangway/api"
	"gangway/symtab"
)

func TestP1801Objects(t *testing.T) {
	checkCheck(t, nil, api.OK)
	checkCheck(t, files(), api.OK)
	checkCheck(t, make([]api.File, 16), api.OK)
	checkCheck(t, make([]api.File, 17), api.ErrSize)
	checkCheck(t, slices.Repeat(files(object(local("a"), weak("b"))), 16), api.OK)
	// Too many objects come ahead of whatever is wrong in them.
	checkCheck(t, slices.Repeat(files(object(symbol("a", ".text", 9, 0, 0, 0))), 16), api.ErrSymbol)
	checkCheck(t, slices.Repeat(files(object(symbol("a", ".text", 9, 0, 0, 0))), 17), api.ErrSize)
}

// TestP1801Symtab: what symtab refuses is refused with its error.
func TestP1801Symtab(t *testing.T) {
	many := make([]api.Symbol, 2001)
	for k := range many {
		many[k] = in(local(""), "*")
	}
	sections := make([]api.Section, 65)
	for k := range sections {
		sections[k] = section(string(rune(1000+k)), api.ProgBits, 0, 0)
	}
	for _, c := range []struct {
		f api.File
		e api.Errno
	}{
		{api.File{Symbols: many[:2000]}, api.OK},
		{api.File{Symbols: many}, api.ErrSize},
		{api.File{Sections: sections[:64]}, api.OK},
		{api.File{Sections: sections}, api.ErrSize},
		{object(local(long(255))), api.OK},
		{object(local(long(256))), api.ErrSize},
		{with(section(long(255), api.ProgBits, 0, 0)), api.OK},
		{with(section(long(256), api.ProgBits, 0, 0)), api.ErrSize},
		{with(section("", api.ProgBits, 0, 0)), api.ErrSymbol},
		{with(section("*", api.ProgBits, 0, 0)), api.ErrSymbol},
		{with(section("a\x00", api.ProgBits, 0, 0)), api.ErrSymbol},
		{api.File{Sections: []api.Section{text(), text()}}, api.ErrSymbol},
		{object(local("a"), local("a")), api.ErrSymbol},
		{object(local("a"), strong("a"), local(""), local("")), api.OK},
		{object(strong("a"), wants("a")), api.ErrSymbol},
		{object(strong("a"), weak("a")), api.ErrSymbol},
		{object(strong("")), api.ErrSymbol},
		{object(strong("a\x00")), api.ErrSymbol},
		{object(in(strong("a"), "text")), api.ErrSymbol},
		{object(in(local("a"), "")), api.ErrSymbol},
		{object(symbol("a", "", 1, 0, api.Global, 0)), api.ErrSymbol},
		{object(symbol("a", "", 0, 1, api.Weak, 0)), api.ErrSymbol},
		{object(symbol("a", ".text", 0, 0, 3, 0)), api.ErrSymbol},
		{object(symbol("a", ".text", 0, 0, 0, 3)), api.ErrSymbol},
		{object(symbol("a", ".text", -1, 0, 0, 0)), api.ErrSymbol},
		{object(symbol("a", ".text", 0, -1, 0, 0)), api.ErrSymbol},
		{object(symbol("a", "*", 1<<62+1, 0, 0, 0)), api.ErrSymbol},
	} {
		checkCheck(t, files(c.f), c.e)
		checkCheck(t, files(object(local("a")), c.f, api.File{}), c.e)
	}
}

func TestP1801SectionTypes(t *testing.T) {
	for _, kind := range []int{math.MinInt, -1, 0, 1, 2, 3, 4, 7, 8, 9, 13, 14, 15, 16, 257, 264, 1 << 32, 1<<32 + 1, math.MaxInt} {
		for _, size := range []int{0, 5} {
			want := api.ErrSymbol
			if kind == 1 || kind == 8 || kind == 14 || kind == 15 {
				want = api.OK
			}
			checkCheck(t, files(with(section("a", kind, 0, size))), want)
		}
	}
}

func TestP1801SectionFlags(t *testing.T) {
	for _, kind := range []int{api.ProgBits, api.NoBits, api.InitArray, api.FiniArray} {
		for flags := range 8 {
			checkCheck(t, files(with(section("a", kind, flags, 3))), api.OK)
			checkCheck(t, files(with(section("a", kind, 1024+flags, 3))), api.OK)
			for _, other := range []int{8, 16, 512, 2048, 1 << 31, 1 << 32, 1 << 62, math.MinInt, -8} {
				checkCheck(t, files(with(section("a", kind, other|flags, 3))), api.ErrSymbol)
				checkCheck(t, files(with(section("a", kind, other|1024|flags, 3))), api.ErrSymbol)
			}
		}
	}
}

func TestP1801SectionAlign(t *testing.T) {
	right := []int{1, 2, 4, 8, 16, 32, 64, 128, 256, 512, 1024, 2048, 4096}
	for _, n := range append(right, math.MinInt, -4096, -8, -1, 0, 3, 5, 6, 7, 9, 12, 24, 4095, 4097, 6144, 8192, 1<<32, 1<<62, math.MaxInt) {
		for _, s := range []api.Section{text(), tdata(), bss(), section("a", api.InitArray, 3, 8)} {
			s.Align = n
			want := api.ErrSymbol
			if slices.Contains(right, n) {
				want = api.OK
			}
			checkCheck(t, files(with(s)), want)
		}
	}
}

func TestP1801SectionSize(t *testing.T) {
	for _, kind := range []int{api.ProgBits, api.InitArray, api.FiniArray} {
		for _, n := range []int{math.MinInt, -8, -1, 0, 1, 7, 9, 16, 1 << 30, math.MaxInt} {
			s := section("a", kind, 3, 8)
			s.Size = n
			checkCheck(t, files(with(s)), api.ErrSymbol)
		}
		s := section("a", kind, 3, 0)
		checkCheck(t, files(with(s)), api.OK)
		s.Size = 1
		checkCheck(t, files(with(s)), api.ErrSymbol)
	}
	for _, n := range []int{math.MinInt, -1, 0, 1, 1<<30 - 1, 1 << 30, 1<<30 + 1, 1 << 31, 1 << 32, math.MaxInt} {
		want := api.ErrSymbol
		if n >= 0 && n <= 1<<30 {
			want = api.OK
		}
		checkCheck(t, files(with(section(".bss", api.NoBits, 3, n))), want)
	}
	for _, n := range []int{1, 8} {
		s := bss()
		s.Data, s.Size = make([]byte, n), n
		checkCheck(t, files(with(s)), api.ErrSymbol)
	}
	s := bss()
	s.Data = []byte{}
	checkCheck(t, files(with(s)), api.OK)
}

// TestP1801SymbolPlace: a Value, and a Value and a Size together, of at most the section's Size.
func TestP1801SymbolPlace(t *testing.T) {
	for _, s := range []api.Section{section("s", api.ProgBits, 4, 8), section("s", api.NoBits, 3, 8), section("s", api.InitArray, 3, 8), section("s", api.ProgBits, 0, 0)} {
		for _, bind := range bindings() {
			for value := range 11 {
				for size := range 11 {
					want := api.OK
					if value+size > s.Size {
						want = api.ErrSymbol
					}
					checkCheck(t, files(with(s, symbol("a", "s", value, size, bind, api.NoType))), want)
				}
			}
		}
		for _, far := range []int{9, 1 << 32, 1 << 61, 1<<62 - 8, 1<<62 - 1, 1 << 62} {
			for _, near := range []int{0, 1, 8, 1 << 32, 1 << 62} {
				checkCheck(t, files(with(s, symbol("a", "s", far, near, api.Global, api.NoType))), api.ErrSymbol)
				checkCheck(t, files(with(s, symbol("a", "s", near, far, api.Global, api.NoType))), api.ErrSymbol)
			}
		}
	}
	big := section(".bss", api.NoBits, 3, 1<<30)
	checkCheck(t, files(with(big, symbol("a", ".bss", 1<<30, 0, 0, 0), symbol("b", ".bss", 0, 1<<30, 0, 0), symbol("c", ".bss", 1<<29, 1<<29, 0, 0))), api.OK)
	checkCheck(t, files(with(big, symbol("a", ".bss", 1<<30, 1, 0, 0))), api.ErrSymbol)
	checkCheck(t, files(with(big, symbol("a", ".bss", 1<<29, 1<<29+1, 0, 0))), api.ErrSymbol)
	// A number has no end.
	for _, bind := range bindings() {
		checkCheck(t, files(object(symbol("a", "*", 1<<62, 1<<62, bind, api.Object))), api.OK)
		checkCheck(t, files(api.File{Symbols: []api.Symbol{symbol("a", "*", 1<<62, 1<<62, bind, api.NoType)}}), api.OK)
	}
	// Each symbol by its own section.
	small, great := section("small", api.ProgBits, 0, 2), section("great", api.ProgBits, 0, 20)
	for _, l := range [][]api.Section{{small, great}, {great, small}} {
		checkCheck(t, files(api.File{Sections: l, Symbols: []api.Symbol{symbol("a", "great", 20, 0, 0, 0), symbol("b", "small", 1, 1, 0, 0)}}), api.OK)
		checkCheck(t, files(api.File{Sections: l, Symbols: []api.Symbol{symbol("a", "great", 20, 0, 0, 0), symbol("b", "small", 2, 1, 0, 0)}}), api.ErrSymbol)
	}
	// And by that of its own object.
	checkCheck(t, files(with(great), with(section("great", api.ProgBits, 0, 2), symbol("a", "great", 3, 0, 0, 0))), api.ErrSymbol)
}

func TestP1801Tls(t *testing.T) {
	for flags := range 8 {
		for _, size := range []int{0, 4} {
			for _, kind := range []int{api.ProgBits, api.NoBits} {
				for _, bind := range bindings() {
					plain, tls := section("s", kind, flags, size), section("s", kind, flags|api.TlsFlag, size)
					for _, other := range []int{api.NoType, api.Object, api.Func} {
						checkCheck(t, files(with(plain, symbol("a", "s", 0, 0, bind, other))), api.OK)
						checkCheck(t, files(with(tls, symbol("a", "s", 0, 0, bind, other))), api.ErrSymbol)
					}
					checkCheck(t, files(with(plain, symbol("a", "s", 0, 0, bind, api.Tls))), api.ErrSymbol)
					checkCheck(t, files(with(tls, symbol("a", "s", 0, 0, bind, api.Tls))), api.OK)
				}
			}
		}
	}
	for _, bind := range bindings() {
		for _, kind := range []int{api.NoType, api.Object, api.Func} {
			checkCheck(t, files(object(symbol("a", "*", 5, 5, bind, kind))), api.OK)
		}
		checkCheck(t, files(object(symbol("a", "*", 5, 5, bind, api.Tls))), api.ErrSymbol)
		checkCheck(t, files(object(symbol("a", "*", 0, 0, bind, api.Tls))), api.ErrSymbol)
	}
	for _, kind := range []int{api.NoType, api.Object, api.Func, api.Tls} {
		for _, s := range []api.Symbol{wants("a"), may("a")} {
			checkCheck(t, files(object(typed(s, kind))), api.OK)
			checkCheck(t, files(api.File{Symbols: []api.Symbol{typed(s, kind)}}), api.OK)
		}
	}
}

// TestP1801Ifunc: only where there is Exec, so in no section it is none either.
func TestP1801Ifunc(t *testing.T) {
	for flags := range 8 {
		for _, bind := range bindings() {
			want := api.ErrSymbol
			if flags&api.Exec != 0 {
				want = api.OK
			}
			s := symbol("a", "s", 0, 0, bind, api.Ifunc)
			checkCheck(t, files(with(section("s", api.ProgBits, flags, 4), s)), want)
			checkCheck(t, files(with(section("s", api.NoBits, flags, 4), s)), want)
			checkCheck(t, files(with(section("s", api.ProgBits, flags|api.TlsFlag, 4), s)), api.ErrSymbol)
		}
	}
	for _, s := range []api.Symbol{in(local("a"), "*"), in(strong("a"), "*"), in(weak("a"), "*"), wants("a"), may("a"), in(strong("a"), ".data")} {
		checkCheck(t, files(object(typed(s, api.Ifunc))), api.ErrSymbol)
		checkCheck(t, files(object(typed(s, api.NoType))), api.OK)
	}
}

// TestP1801NotAsked: relocations, and names that files have for their own parts, count for nothing here.
func TestP1801NotAsked(t *testing.T) {
	s := text()
	s.Relocs = []api.Reloc{{At: -1, Type: -1, Symbol: "nobody", Add: math.MinInt}}
	checkCheck(t, files(with(s), with(section(".symtab", api.ProgBits, 0, 1)), with(section(".rela.text", api.ProgBits, 0, 1))), api.OK)
}

// TestP1801InOrder: objects one by one, and of each one symtab's error first.
func TestP1801InOrder(t *testing.T) {
	size, wrong := object(local(long(256))), object(symbol("a", ".text", 9, 0, 0, 0))
	flags := text()
	flags.Flags = 8
	both := with(flags, local(long(256)))
	if symtab.Check(wrong.Symbols, []string{".text"}) != api.OK {
		t.Fatal("symtab takes it")
	}
	for _, c := range []struct {
		l []api.File
		e api.Errno
	}{
		{files(size), api.ErrSize},
		{files(wrong), api.ErrSymbol},
		{files(both), api.ErrSize},
		{files(size, wrong), api.ErrSize},
		{files(wrong, size), api.ErrSymbol},
		{files(object(), api.File{}, wrong, size), api.ErrSymbol},
		{files(object(), size, object(), wrong), api.ErrSize},
		{files(with(flags), size), api.ErrSymbol},
	} {
		checkCheck(t, c.l, c.e)
	}
	// What may not be may stand anywhere.
	for k := range 16 {
		l := slices.Repeat(files(object(may("a"))), 16)
		l[k] = wrong
		checkCheck(t, l, api.ErrSymbol)
	}
	for k := range 4 {
		f := object()
		f.Sections[k].Align = 3
		checkCheck(t, files(f), api.ErrSymbol)
		g := object(local("a"), local("b"), local("c"), local("d"))
		g.Symbols[k].Size = 9
		checkCheck(t, files(g), api.ErrSymbol)
	}
}
