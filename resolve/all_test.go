package resolve_test

import (
	"math"
	"slices"
	"testing"

	"gangway/api"
	sources "gangway/object"
	"gangway/resolve"
)

// TestP1803Examples: those of the chapter.
func TestP1803Examples(t *testing.T) {
	a, b, c, d := object(strong("f")), object(wants("f")), object(weak("f")), object(strong("f"))
	checkAll(t, files(a, b), entry("f", 0, 0, api.Global, api.NoType))
	checkAll(t, files(c, a, b), entry("f", 1, 0, api.Global, api.NoType))
	checkFaults(t, files(a, b, d), fault(api.ErrTwice, "f"))
	checkFaults(t, files(b), fault(api.ErrUndefined, "f"))
	checkAll(t, files(object(may("f"))), nothing("f"))
	x := typed(in(strong("x"), ".tdata"), api.Tls)
	checkFaults(t, files(object(x), object(typed(wants("x"), api.Object))), fault(api.ErrType, "x"))
	checkFaults(t, files(with(data()), with(section(".data", api.ProgBits, api.Alloc, 8))), fault(api.ErrType, ".data"))
}

// TestP1803Errors: Check's error has no name; else the first fault is told.
func TestP1803Errors(t *testing.T) {
	wrong := object(symbol("a", ".text", 9, 0, 0, 0))
	for _, c := range []struct {
		l    []api.File
		want resolve.Fault
	}{
		{make([]api.File, 17), fault(api.ErrSize, "")},
		{files(object(local(long(256)))), fault(api.ErrSize, "")},
		{files(object(wants("u")), wrong), fault(api.ErrSymbol, "")},
		{files(object(strong("m"), wants("u")), object(strong("m"))), fault(api.ErrTwice, "m")},
		{files(object(wants("u"), wants("b")), object(typed(in(strong("a"), ".tdata"), api.Tls)), object(typed(may("a"), api.Func))), fault(api.ErrUndefined, "b")},
		{files(with(section("z", api.ProgBits, 0, 0)), with(section("z", api.NoBits, 0, 0)), object(may("y"))), fault(api.ErrType, "z")},
	} {
		if entries, got := resolve.All(c.l); len(entries) != 0 || got != c.want {
			t.Errorf("All(%s): %s, %s; want %s", short(c.l), short(entries), short(got), short(c.want))
		}
	}
}

// TestP1803Entries: an entry for each name, rising, with the place among all Symbols of its object.
func TestP1803Entries(t *testing.T) {
	checkAll(t, nil)
	checkAll(t, files(object(), object(local("a"), local("")), api.File{}))
	f := object(local("a"), wants("b"), typed(strong("c"), api.Func), local("c"), may("zero"))
	g := object(may("b"), local("b"), in(strong("b"), ".bss"), typed(weak("c"), api.Object))
	g.Symbols = slices.Delete(g.Symbols, 0, 1)
	h := object(typed(weak("w"), api.Ifunc), symbol("k", "*", 77, 0, api.Weak, api.Object), typed(may("c"), api.Func))
	want := []resolve.Entry{
		entry("b", 1, 1, api.Global, api.NoType),
		entry("c", 0, 2, api.Global, api.Func),
		entry("k", 2, 1, api.Weak, api.Object),
		entry("w", 2, 0, api.Weak, api.Ifunc),
		nothing("zero"),
	}
	checkAll(t, files(f, g, h), want...)
	for k := range want {
		if want[k].Object >= 0 {
			want[k].Object = 2 - want[k].Object
		}
	}
	checkAll(t, files(h, g, f), want...)
}

// TestP1803First: of weak ones the first one, if no strong one is there, wherever that is.
func TestP1803First(t *testing.T) {
	weakOf := func(kind int) api.File { return object(local("x"), typed(weak("a"), kind)) }
	checkAll(t, files(weakOf(1), weakOf(2), weakOf(0)), entry("a", 0, 1, api.Weak, api.Object))
	checkAll(t, files(object(may("a")), object(wants("a")), weakOf(2), weakOf(1)), entry("a", 2, 1, api.Weak, api.Func))
	s := object(local("x"), local("y"), typed(in(strong("a"), ".data"), api.Object))
	l := files(weakOf(2), weakOf(0), weakOf(10), object(may("a")), object(wants("a")))
	for at := range 6 {
		checkAll(t, slices.Insert(slices.Clone(l), at, s), entry("a", at, 2, api.Global, api.Object))
	}
	// What nobody defines is Weak, whatever type a reference has.
	for _, kind := range []int{api.NoType, api.Object, api.Func, api.Tls} {
		checkAll(t, files(object(typed(may("a"), kind)), object(may("a"))), nothing("a"))
	}
	// A meaning has its own type, whatever references have.
	checkAll(t, files(object(typed(may("a"), api.Object)), object(typed(strong("a"), api.NoType)), object(typed(wants("a"), api.Func))), entry("a", 1, 0, api.Global, api.NoType))
	checkAll(t, files(object(may("a")), object(typed(in(weak("a"), ".tdata"), api.Tls))), entry("a", 1, 0, api.Weak, api.Tls))
}

// TestP1803Many: as many names as there may be.
func TestP1803Many(t *testing.T) {
	name := func(k int) string {
		return string([]byte{byte('a' + k/1000), byte('0' + k/100%10), byte('0' + k/10%10), byte('0' + k%10)})
	}
	var l []api.File
	var want []resolve.Entry
	for o := range 16 {
		f := object()
		for k := range 2000 {
			n := o*1000 + k
			if k < 1000 {
				f.Symbols = append(f.Symbols, strong(name(n)))
				want = append(want, entry(name(n), o, k, api.Global, api.NoType))
			} else {
				f.Symbols = append(f.Symbols, may(name(n)))
			}
		}
		l = append(l, f)
	}
	for k := range 1000 {
		want = append(want, nothing(name(16000+k)))
	}
	checkAll(t, l, want...)
	checkLook(t, l, want, 3, name(4007), 4, 7, api.OK)
	checkLook(t, l, want, 15, name(16999), -1, -1, api.OK)
	checkLook(t, l, want, 0, name(16999), 0, 0, api.ErrNone)
}

func TestP1804Find(t *testing.T) {
	l := []resolve.Entry{entry("b", 1, 2, 1, 2), nothing("a"), entry("b", 3, 4, 2, 1), entry("", 5, 6, 7, 8), entry("c\x00", -9, math.MinInt, math.MaxInt, 1), entry("", 0, 0, 0, 0)}
	checkFind(t, l, "b", l[0], true)
	checkFind(t, l, "a", nothing("a"), true)
	checkFind(t, l, "", l[3], true)
	checkFind(t, l, "c\x00", l[4], true)
	checkFind(t, l[1:], "b", l[2], true)
	for _, n := range []string{"B", "bb", "c", "\x00", "a ", long(70000)} {
		checkFind(t, l, n, resolve.Entry{}, false)
	}
	checkFind(t, l[:3], "", resolve.Entry{}, false)
	for _, n := range []string{"", "a"} {
		checkFind(t, nil, n, resolve.Entry{}, false)
		checkFind(t, []resolve.Entry{}, n, resolve.Entry{}, false)
	}
	names := []string{"", "a", "b", "c", "d", "e"}
	random := seeded(4)
	for range 2000 {
		var l []resolve.Entry
		for k := range random.IntN(8) {
			l = append(l, entry(pick(random, names...), k, random.IntN(9), 1, 1))
		}
		for _, n := range names {
			want, ok := resolve.Entry{}, false
			for _, x := range l {
				if x.Name == n && !ok {
					want, ok = x, true
				}
			}
			checkFind(t, l, n, want, ok)
		}
	}
}

func TestP1805Look(t *testing.T) {
	l := files(object(wants("f"), may("g")), object(local("x"), strong("f"), local("g")), object(weak("f"), local("f"), may("g")))
	entries := entriesOf(t, l)
	checkLook(t, l, entries, 0, "f", 1, 1, api.OK)
	checkLook(t, l, entries, 1, "f", 1, 1, api.OK)
	checkLook(t, l, entries, 2, "f", 2, 1, api.OK)
	checkLook(t, l, entries, 0, "g", -1, -1, api.OK)
	checkLook(t, l, entries, 1, "g", 1, 2, api.OK)
	checkLook(t, l, entries, 2, "g", -1, -1, api.OK)
	checkLook(t, l, entries, 1, "x", 1, 0, api.OK)
	// A name is looked for in that object alone.
	checkLook(t, l, entries, 0, "x", 0, 0, api.ErrNone)
	checkLook(t, l, entries, 2, "x", 0, 0, api.ErrNone)
	checkLook(t, l, append(entries, entry("x", 1, 0, 1, 0)), 2, "x", 0, 0, api.ErrNone)
	for _, at := range []int{-1, 3, 4, 1 << 32, math.MinInt, math.MaxInt} {
		for _, n := range []string{"f", "g", "x", "", "nobody"} {
			checkLook(t, l, entries, at, n, 0, 0, api.ErrArg)
		}
	}
	checkLook(t, nil, nil, 0, "f", 0, 0, api.ErrArg)
	checkLook(t, files(api.File{}), entries, 0, "f", 0, 0, api.ErrNone)
	for _, n := range []string{"", "F", "ff", "f\x00"} {
		checkLook(t, l, entries, 0, n, 0, 0, api.ErrNone)
	}
	// Of Local ones without a name it is the first one.
	checkLook(t, files(object(strong("a"), local(""), local(""))), nil, 0, "", 0, 1, api.OK)
}

// TestP1805AsItIs: neither the entries nor the objects need be what All or Check take.
func TestP1805AsItIs(t *testing.T) {
	l := files(object(strong("a"), strong("a"), symbol("b", "none", -1, -1, 7, 7), wants("")), object(strong("a")))
	checkLook(t, l, []resolve.Entry{entry("a", 77, -5, 0, 0), entry("a", 0, 0, 1, 1)}, 0, "a", 77, -5, api.OK)
	checkLook(t, l, []resolve.Entry{entry("b", math.MaxInt, math.MinInt, 0, 0)}, 0, "b", math.MaxInt, math.MinInt, api.OK)
	checkLook(t, l, []resolve.Entry{entry("a", -1, 3, 0, 0)}, 1, "a", -1, 3, api.OK)
	checkLook(t, l, []resolve.Entry{entry("", 4, 5, 0, 0)}, 0, "", 4, 5, api.OK)
	checkLook(t, l, []resolve.Entry{entry("z", 1, 0, 0, 0)}, 1, "a", 0, 0, api.ErrNone)
	checkLook(t, l, nil, 1, "a", 0, 0, api.ErrNone)
	many := slices.Repeat(files(object(local("a"), strong("b"))), 20)
	checkLook(t, many, []resolve.Entry{entry("b", 19, 1, 1, 0)}, 18, "a", 18, 0, api.OK)
	checkLook(t, many, []resolve.Entry{entry("b", 19, 1, 1, 0)}, 19, "b", 19, 1, api.OK)
}

// TestP1803Sources: objects that were assembled.
func TestP1803Sources(t *testing.T) {
	var l []api.File
	for _, text := range []string{
		".globl main; main: call f; call g@plt; movq w@gotpcrel(%rip), %rax; ret; .weak w; .L1: jmp .L1",
		".globl g; .weak f; f: ret; .type g, @function; g: .L1: ret; .section .tdata; .globl v; v: .quad 1",
		".globl f; f: nop; movq v@gottpoff(%rip), %rax; ret",
	} {
		f, line, e := sources.Assemble(text)
		if e != api.OK {
			t.Fatal(text, line, e)
		}
		l = append(l, f)
	}
	entries := entriesOf(t, l)
	for _, c := range []struct {
		name string
		at   int
		in   string
		kind int
	}{{"main", 0, ".text", api.NoType}, {"f", 2, ".text", api.NoType}, {"g", 1, ".text", api.Func}, {"v", 1, ".tdata", api.Tls}} {
		x, ok := resolve.Find(entries, c.name)
		if !ok || x.Object != c.at || x.Type != c.kind || x.Bind != api.Global || l[c.at].Symbols[x.Symbol].Name != c.name || l[c.at].Symbols[x.Symbol].Section != c.in {
			t.Error(c, x, ok)
		}
	}
	checkFind(t, entries, "w", nothing("w"), true)
	if len(entries) != 5 {
		t.Error(entries)
	}
	for at := range 2 {
		if o, s, e := resolve.Look(l, entries, at, ".L1"); e != api.OK || o != at || l[at].Symbols[s].Name != ".L1" {
			t.Error(at, o, s, e)
		}
	}
	checkFaults(t, l[:1], fault(api.ErrUndefined, "f"), fault(api.ErrUndefined, "g"))
	checkFaults(t, append(files(l[2]), l...), fault(api.ErrTwice, "f"))
}
