package symtab_test

import (
	"bytes"
	"fmt"
	"slices"
	"strings"
	"testing"

	"gangway/api"
	"gangway/symtab"
)

// most: the greatest Value and Size; entry: as many bytes as a symbol has.
const (
	most  = 1 << 62
	entry = 24
)

func bindings() []int { return []int{api.Local, api.Global, api.Weak} }

func kinds() []int { return []int{api.NoType, api.Object, api.Func, api.Tls, api.Ifunc} }

// long: a name of so many bytes.
func long(n int) string { return strings.Repeat("n", n) }

// longer: a name of so many bytes that has a number in it.
func longer(n, k int) string { return fmt.Sprintf("%05d", k) + long(n-5) }

// numbered: so many names, unlike and short.
func numbered(n int) []string {
	var l []string
	for k := range n {
		l = append(l, fmt.Sprintf("s%d", k))
	}
	return l
}

func symbol(name, section string, value, size, bind, kind int) api.Symbol {
	return api.Symbol{Name: name, Section: section, Value: value, Size: size, Bind: bind, Type: kind}
}

// of: a symbol at no place in particular.
func of(name, section string, bind int) api.Symbol {
	return api.Symbol{Name: name, Section: section, Bind: bind}
}

// locals: so many, of unlike names, each at "*".
func locals(n int) []api.Symbol {
	var l []api.Symbol
	for _, name := range numbered(n) {
		l = append(l, of(name, "*", api.Local))
	}
	return l
}

func checkStrings(t *testing.T, l []string, b string, at []int, e api.Errno) {
	t.Helper()
	gotB, gotAt, gotE := symtab.Strings(l)
	if string(gotB) != b || !slices.Equal(gotAt, at) || gotE != e {
		t.Fatalf("Strings(%s), %d names: %d bytes, %s, %s, %d; want %s, %s, %d", short(l), len(l), len(gotB), short(string(gotB)), short(gotAt), gotE, short(b), short(at), e)
	}
}

func checkAt(t *testing.T, b string, at int, name string, e api.Errno) {
	t.Helper()
	if got, gotE := symtab.At([]byte(b), at); got != name || gotE != e {
		t.Fatalf("At(%s, %d): %s, %d; want %s, %d", short(b), at, short(got), gotE, short(name), e)
	}
}

// checkAnswer: of Check; and Write answers the same error, with nothing beside it.
func checkAnswer(t *testing.T, l []api.Symbol, sections []string, e api.Errno) {
	t.Helper()
	if got := symtab.Check(l, sections); got != e {
		t.Fatalf("Check(%s, %s), %d symbols: %d; want %d", short(l), short(sections), len(l), got, e)
	}
	syms, strs, first, got := symtab.Write(l, sections)
	if got != e || e != api.OK && (len(syms) != 0 || len(strs) != 0 || first != 0) {
		t.Fatalf("Write(%s, %s), %d symbols: %d bytes, %d bytes, %d, %d; want %d", short(l), short(sections), len(l), len(syms), len(strs), first, got, e)
	}
}

// written: symbols as bytes, as Write answers them.
type written struct {
	syms, strs []byte
	first      int
}

func write(t *testing.T, l []api.Symbol, sections []string) written {
	t.Helper()
	syms, strs, first, e := symtab.Write(l, sections)
	if e != api.OK {
		t.Fatalf("Write(%s, %s): %d", short(l), short(sections), e)
	}
	return written{syms, strs, first}
}

func (w written) copied() written {
	return written{bytes.Clone(w.syms), bytes.Clone(w.strs), w.first}
}

func (w written) is(o written) bool {
	return bytes.Equal(w.syms, o.syms) && bytes.Equal(w.strs, o.strs) && w.first == o.first
}

func (w written) String() string {
	return short(fmt.Sprintf("% x", w.syms)) + " " + short(string(w.strs)) + " " + fmt.Sprint(w.first)
}

// checkRead: these symbols and OK; or none and the error.
func checkRead(t *testing.T, w written, sections []string, l []api.Symbol, e api.Errno) {
	t.Helper()
	got, gotE := symtab.Read(w.syms, w.strs, w.first, sections)
	if !slices.Equal(got, l) || gotE != e {
		t.Fatalf("Read(%s, %s): %s, %d; want %s, %d", w, short(sections), short(got), gotE, short(l), e)
	}
}

func refused(t *testing.T, w written, sections []string) {
	t.Helper()
	checkRead(t, w, sections, nil, api.ErrSymbol)
}

// short: what fits into a line of it.
func short(x any) string {
	s := fmt.Sprintf("%#v", x)
	if len(s) > 300 {
		return s[:300] + ".."
	}
	return s
}

// joined: bytes of texts, one behind the other.
func joined(parts ...string) []byte { return []byte(strings.Join(parts, "")) }
