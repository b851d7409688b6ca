package resolve_test

import (
	"slices"
	"testing"

	"gangway/api"
	"gangway/resolve"
)

// TestP1802Nothing: objects that agree, or that may not be.
func TestP1802Nothing(t *testing.T) {
	for _, l := range [][]api.File{nil, {}, {{}}, {object()}, {object(local("a")), object(local("a"))}, {object(strong("a")), object(wants("a"), weak("b"), may("c"))}} {
		checkFaults(t, l)
	}
	for _, l := range [][]api.File{make([]api.File, 17), {object(wants("a")), object(symbol("b", ".text", 9, 0, 0, 0))}, {object(strong("a"), strong("a"))}} {
		if f := resolve.Faults(l); len(f) != 0 {
			t.Errorf("Faults(%s): %s", short(l), short(f))
		}
	}
}

func TestP1802Twice(t *testing.T) {
	twice := fault(api.ErrTwice, "a")
	checkFaults(t, files(object(strong("a")), object(strong("a"))), twice)
	checkFaults(t, files(object(strong("a")), object(strong("a")), object(strong("a"))), twice)
	checkFaults(t, files(object(strong("a")), object(), object(wants("a")), object(weak("a")), object(strong("a"))), twice)
	checkFaults(t, files(object(strong("a")), object(in(strong("a"), ".data"))), twice)
	checkFaults(t, files(object(in(strong("a"), "*")), object(in(strong("a"), "*"))), twice)
	checkFaults(t, files(object(strong("a")), object(symbol("a", "*", 7, 0, api.Global, api.Object))), twice)
	checkFaults(t, slices.Repeat(files(object(strong("b"), strong("a"))), 16), twice, fault(api.ErrTwice, "b"))
	// One strong definition, and what is none.
	for _, other := range []api.Symbol{weak("a"), in(weak("a"), "*"), local("a"), in(local("a"), "*"), wants("a"), may("a"), strong("A"), strong("aa"), strong("a ")} {
		checkFaults(t, files(object(strong("a")), object(other)))
		checkFaults(t, files(object(other), object(strong("a"))))
	}
	checkFaults(t, files(object(weak("a")), object(weak("a"))))
}

func TestP1802Undefined(t *testing.T) {
	undefined := fault(api.ErrUndefined, "a")
	checkFaults(t, files(object(wants("a"))), undefined)
	checkFaults(t, files(object(wants("a")), object(wants("a")), object(may("a"))), undefined)
	checkFaults(t, files(object(may("a")), object(wants("a"))), undefined)
	checkFaults(t, files(object(may("a")), object(may("a"))))
	checkFaults(t, files(object(may("a"))))
	for _, kind := range []int{api.NoType, api.Object, api.Func, api.Tls} {
		checkFaults(t, files(object(typed(wants("a"), kind))), undefined)
		checkFaults(t, files(object(typed(may("a"), kind))))
	}
	// A Local one defines it for nobody, not even in its own object.
	checkFaults(t, files(object(wants("a")), object(local("a"))), undefined)
	checkFaults(t, files(object(wants("a"), local("a"))), undefined)
	checkFaults(t, files(object(wants("a")), object(strong("aa"), strong("A"), strong("a."))), undefined)
	for _, d := range []api.Symbol{strong("a"), weak("a"), in(strong("a"), "*"), in(weak("a"), "*"), in(strong("a"), ".bss")} {
		checkFaults(t, files(object(wants("a")), object(d)))
		checkFaults(t, files(object(d), object(wants("a"))))
	}
}

// TestP1802Types: of a name's symbols that have a type all are Tls, or none is.
func TestP1802Types(t *testing.T) {
	unlike := fault(api.ErrType, "a")
	thread := typed(in(strong("a"), ".tdata"), api.Tls)
	weakThread := typed(in(weak("a"), ".tdata"), api.Tls)
	others := []int{api.Object, api.Func}
	for _, tls := range []api.Symbol{thread, weakThread, typed(wants("a"), api.Tls), typed(may("a"), api.Tls)} {
		for _, kind := range others {
			for _, other := range []api.Symbol{typed(weak("a"), kind), typed(in(weak("a"), "*"), kind), typed(may("a"), kind), typed(in(weak("a"), ".data"), kind)} {
				behind := object(in(strong("a"), "*"))
				if tls == thread {
					behind = object()
				}
				checkFaults(t, files(object(tls), object(other), behind), unlike)
				checkFaults(t, files(behind, object(other), object(tls)), unlike)
				checkFaults(t, files(object(other), object(tls), behind, object(other)), unlike)
			}
		}
		checkFaults(t, files(object(tls), object(typed(weak("a"), api.Ifunc)), object(weak("a"))), unlike)
		// One without a type agrees with all.
		checkFaults(t, files(object(weak("a")), object(may("a")), object(tls), object(may("a"))))
		checkFaults(t, files(object(weakThread), object(tls), object(weakThread)))
	}
	checkFaults(t, files(object(typed(strong("a"), api.Func)), object(typed(may("a"), api.Object)), object(typed(weak("a"), api.Ifunc)), object(may("a"))))
	checkFaults(t, files(object(typed(may("a"), api.Func)), object(typed(may("a"), api.Tls))), unlike)
	// Local ones count for nothing.
	tls := typed(in(local("a"), ".tdata"), api.Tls)
	checkFaults(t, files(object(tls), object(typed(strong("a"), api.Func)), object(tls)))
	checkFaults(t, files(object(typed(local("a"), api.Func)), object(thread), object(typed(local("a"), api.Object), typed(may("a"), api.Tls))))
}

// TestP1802Sections: of one name they are of one Type, with the same Flags, laid out or not.
func TestP1802Sections(t *testing.T) {
	var all []api.Section
	for _, kind := range []int{api.ProgBits, api.NoBits, api.InitArray, api.FiniArray} {
		for _, flags := range []int{0, 1, 2, 3, 4, 6, 7, 1024, 1027} {
			all = append(all, section("s", kind, flags, 0))
		}
	}
	for _, a := range all {
		for _, b := range all {
			var want []resolve.Fault
			if a.Type != b.Type || a.Flags != b.Flags {
				want = append(want, fault(api.ErrType, "s"))
			}
			b.Align = 64
			checkFaults(t, files(with(a), with(b)), want...)
			checkFaults(t, files(with(a), object(), with(a), with(b), with(a)), want...)
			b.Name = "S"
			checkFaults(t, files(with(a), with(b)))
			checkFaults(t, files(api.File{Sections: []api.Section{b, a}}, with(b), with(a)))
		}
	}
	// Sizes, bytes and aligns may be as they like.
	a, b := section(".data", api.ProgBits, 3, 8), section(".data", api.ProgBits, 3, 9)
	b.Align, b.Data[3] = 4096, 7
	checkFaults(t, files(with(a), with(b)))
	// A section and a symbol of one name are two things.
	checkFaults(t, files(with(section("a", api.ProgBits, 0, 1)), object(strong("a"))))
}

// TestP1802Order: four kinds of faults, each by the bytes of the names; a name may have several.
func TestP1802Order(t *testing.T) {
	thread := func(name string) api.Symbol { return typed(in(strong(name), ".tdata"), api.Tls) }
	f := object(strong("z"), strong("m"), wants("u2"), wants("A"), thread("q"), thread("c"), strong("b"))
	g := object(thread("z"), strong("m"), wants("u2"), wants("u10"), typed(wants("q"), api.Func), typed(wants("c"), api.Object))
	h := object(typed(weak("z"), api.Func), strong("Z"), weak("b"), typed(may("c"), api.Func))
	g.Sections[0].Flags, h.Sections[3].Type, h.Sections[3].Data = api.Alloc, api.ProgBits, make([]byte, 8)
	g.Sections[1].Flags = 0
	want := []resolve.Fault{
		fault(api.ErrTwice, "m"), fault(api.ErrTwice, "z"),
		fault(api.ErrUndefined, "A"), fault(api.ErrUndefined, "u10"), fault(api.ErrUndefined, "u2"),
		fault(api.ErrType, "c"), fault(api.ErrType, "q"), fault(api.ErrType, "z"),
		fault(api.ErrType, ".bss"), fault(api.ErrType, ".data"), fault(api.ErrType, ".text"),
	}
	for _, l := range [][]api.File{files(f, g, h), files(h, g, f), files(g, f, h), files(api.File{}, g, h, api.File{}, f)} {
		checkFaults(t, l, want...)
	}
}

// TestP1802Bytes: names rise by their bytes, the shorter one first.
func TestP1802Bytes(t *testing.T) {
	names := []string{"\x01", " ", "*", "A", "Z", "a", "a\x01", "aa", "ab", "b", "\x7f", "\x80", "\xc3\xa4", "\xff", "\xff\x01"}
	var undefined, twice []resolve.Fault
	f, g := object(), object()
	for _, n := range names {
		f.Symbols = append(f.Symbols, wants(n))
		g.Symbols = append(g.Symbols, strong(n))
		undefined = append(undefined, fault(api.ErrUndefined, n))
		twice = append(twice, fault(api.ErrTwice, n))
	}
	random := seeded(3)
	for range 20 {
		random.Shuffle(len(names), func(i, j int) { f.Symbols[i], f.Symbols[j] = f.Symbols[j], f.Symbols[i] })
		checkFaults(t, files(f), undefined...)
		random.Shuffle(len(names), func(i, j int) { g.Symbols[i], g.Symbols[j] = g.Symbols[j], g.Symbols[i] })
		checkFaults(t, files(g, f, g), twice...)
	}
	var sections []resolve.Fault
	one, two := api.File{}, api.File{}
	for _, n := range names {
		if n != "*" {
			one.Sections = append(one.Sections, section(n, api.ProgBits, 0, 0))
			two.Sections = append([]api.Section{section(n, api.ProgBits, 1, 0)}, two.Sections...)
			sections = append(sections, fault(api.ErrType, n))
		}
	}
	checkFaults(t, files(one, two), sections...)
	checkFaults(t, files(two, one, two), sections...)
}
