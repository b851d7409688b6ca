package resolve_test

import (
	"fmt"
	"math/rand/v2"
	"slices"
	"strings"
	"testing"

	"gangway/api"
	"gangway/resolve"
)

func seeded(n uint64) *rand.Rand { return rand.New(rand.NewPCG(18, n)) }

func pick[T any](random *rand.Rand, l ...T) T { return l[random.IntN(len(l))] }

// long is a name of so many bytes.
func long(n int) string { return strings.Repeat("n", n) }

// short is what fits into a line of it.
func short(x any) string {
	s := fmt.Sprintf("%+v", x)
	if len(s) > 900 {
		return s[:900] + ".."
	}
	return s
}

func bindings() []int { return []int{api.Local, api.Global, api.Weak} }

func kinds() []int { return []int{api.NoType, api.Object, api.Func, api.Tls, api.Ifunc} }

// section is one with so many bytes 0, or with room for so many.
func section(name string, kind, flags, size int) api.Section {
	s := api.Section{Name: name, Type: kind, Flags: flags, Align: 8, Size: size}
	if kind != api.NoBits {
		s.Data = make([]byte, size)
	}
	return s
}

func text() api.Section { return section(".text", api.ProgBits, api.Alloc|api.Exec, 8) }

func data() api.Section { return section(".data", api.ProgBits, api.Alloc|api.Write, 8) }

func tdata() api.Section {
	return section(".tdata", api.ProgBits, api.Alloc|api.Write|api.TlsFlag, 8)
}

func bss() api.Section { return section(".bss", api.NoBits, api.Alloc|api.Write, 8) }

// object is one with sections of several kinds.
func object(l ...api.Symbol) api.File {
	return api.File{Sections: []api.Section{text(), data(), tdata(), bss()}, Symbols: l}
}

// with is an object of one section and of symbols.
func with(s api.Section, l ...api.Symbol) api.File {
	return api.File{Sections: []api.Section{s}, Symbols: l}
}

func symbol(name, section string, value, size, bind, kind int) api.Symbol {
	return api.Symbol{Name: name, Section: section, Value: value, Size: size, Bind: bind, Type: kind}
}

// strong, weak, local: definitions in .text. wants, may: references, strong and weak.
func strong(name string) api.Symbol { return symbol(name, ".text", 0, 0, api.Global, api.NoType) }

func weak(name string) api.Symbol { return symbol(name, ".text", 0, 0, api.Weak, api.NoType) }

func local(name string) api.Symbol { return symbol(name, ".text", 0, 0, api.Local, api.NoType) }

func wants(name string) api.Symbol { return symbol(name, "", 0, 0, api.Global, api.NoType) }

func may(name string) api.Symbol { return symbol(name, "", 0, 0, api.Weak, api.NoType) }

// typed is the same symbol of another type.
func typed(s api.Symbol, kind int) api.Symbol {
	s.Type = kind
	return s
}

// in is the same symbol in another section.
func in(s api.Symbol, section string) api.Symbol {
	s.Section = section
	return s
}

func files(l ...api.File) []api.File { return l }

func fault(e api.Errno, name string) resolve.Fault { return resolve.Fault{E: e, Name: name} }

func entry(name string, object, symbol, bind, kind int) resolve.Entry {
	return resolve.Entry{Name: name, Object: object, Symbol: symbol, Bind: bind, Type: kind}
}

func nothing(name string) resolve.Entry { return entry(name, -1, -1, api.Weak, api.NoType) }

// checkCheck: of Check; and where it answers an error, so does All, and Faults answers none.
func checkCheck(t *testing.T, l []api.File, e api.Errno) {
	t.Helper()
	if got := resolve.Check(l); got != e {
		t.Fatalf("Check(%s), %d objects: %d; want %d", short(l), len(l), got, e)
	}
	if e == api.OK {
		return
	}
	if entries, f := resolve.All(l); len(entries) != 0 || f != fault(e, "") {
		t.Fatalf("All(%s): %s, %s; want %d", short(l), short(entries), short(f), e)
	}
	if f := resolve.Faults(l); len(f) != 0 {
		t.Fatalf("Faults(%s): %s; want none", short(l), short(f))
	}
}

// checkFaults: of objects that may be; and All answers the first one, and then no entries.
func checkFaults(t *testing.T, l []api.File, want ...resolve.Fault) {
	t.Helper()
	checkCheck(t, l, api.OK)
	if got := resolve.Faults(l); !slices.Equal(got, want) {
		t.Fatalf("Faults(%s): %s; want %s", short(l), short(got), short(want))
	}
	first := fault(api.OK, "")
	if len(want) > 0 {
		first = want[0]
	}
	if entries, got := resolve.All(l); got != first || first.E != api.OK && len(entries) != 0 {
		t.Fatalf("All(%s): %s, %s; want %s", short(l), short(entries), short(got), short(first))
	}
}

// checkAll: of objects that agree.
func checkAll(t *testing.T, l []api.File, want ...resolve.Entry) {
	t.Helper()
	checkFaults(t, l)
	if got, _ := resolve.All(l); !slices.Equal(got, want) {
		t.Fatalf("All(%s): %s; want %s", short(l), short(got), short(want))
	}
}

func checkFind(t *testing.T, l []resolve.Entry, name string, want resolve.Entry, ok bool) {
	t.Helper()
	if got, gotOk := resolve.Find(l, name); got != want || gotOk != ok {
		t.Fatalf("Find(%s, %q): %s, %v; want %s, %v", short(l), name, short(got), gotOk, short(want), ok)
	}
}

func checkLook(t *testing.T, l []api.File, entries []resolve.Entry, at int, name string, object, symbol int, e api.Errno) {
	t.Helper()
	if o, s, got := resolve.Look(l, entries, at, name); o != object || s != symbol || got != e {
		t.Fatalf("Look(%s, %s, %d, %q): %d, %d, %d; want %d, %d, %d", short(l), short(entries), at, name, o, s, got, object, symbol, e)
	}
}

// entriesOf is what All answers of objects that agree.
func entriesOf(t *testing.T, l []api.File) []resolve.Entry {
	t.Helper()
	entries, f := resolve.All(l)
	if f.E != api.OK {
		t.Fatalf("All(%s): %s", short(l), short(f))
	}
	return entries
}
