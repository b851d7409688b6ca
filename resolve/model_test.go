package resolve_test

import (
	"math/big"
	"math/rand/v2"
	"slices"
	"testing"

	"gangway/api"
	"gangway/resolve"
	"gangway/symtab"
)

// The chapter once more, slowly: each sentence for itself, all objects gone through anew for each name.

func modelCheck(l []api.File) api.Errno {
	if len(l) > 16 {
		return api.ErrSize
	}
	for _, f := range l {
		names := make([]string, len(f.Sections))
		for k, s := range f.Sections {
			names[k] = s.Name
		}
		if e := symtab.Check(f.Symbols, names); e != api.OK {
			return e
		}
		for _, s := range f.Sections {
			if !modelSection(s) {
				return api.ErrSymbol
			}
		}
		for _, s := range f.Symbols {
			if !modelSymbol(s, f.Sections) {
				return api.ErrSymbol
			}
		}
	}
	return api.OK
}

func modelSection(s api.Section) bool {
	aligned := slices.Contains([]int{1, 2, 4, 8, 16, 32, 64, 128, 256, 512, 1024, 2048, 4096}, s.Align)
	flagged := s.Flags >= 0 && s.Flags <= 7 || s.Flags >= 1024 && s.Flags <= 1031
	switch s.Type {
	case 1, 14, 15:
		return aligned && flagged && len(s.Data) == s.Size
	case 8:
		return aligned && flagged && len(s.Data) == 0 && s.Size >= 0 && s.Size <= 1073741824
	}
	return false
}

func modelSymbol(s api.Symbol, sections []api.Section) bool {
	k := slices.IndexFunc(sections, func(x api.Section) bool { return x.Name == s.Section })
	if k < 0 {
		return s.Type != 10 && (s.Section == "" || s.Type != 6)
	}
	x := sections[k]
	end := new(big.Int).Add(big.NewInt(int64(s.Value)), big.NewInt(int64(s.Size)))
	within := s.Value <= x.Size && end.Cmp(big.NewInt(int64(x.Size))) <= 0
	isTls, isExec := x.Flags >= 1024, x.Flags/4%2 == 1
	return within && (s.Type == 6) == isTls && (s.Type != 10 || isExec)
}

// named: all symbols of that name that count.
func named(l []api.File, name string) []api.Symbol {
	var found []api.Symbol
	for _, f := range l {
		for _, s := range f.Symbols {
			if s.Name == name && s.Bind != 0 {
				found = append(found, s)
			}
		}
	}
	return found
}

func rising(names []string) []string {
	slices.Sort(names)
	return slices.Compact(names)
}

func symbolNames(l []api.File) []string {
	var names []string
	for _, f := range l {
		for _, s := range f.Symbols {
			if s.Bind != 0 {
				names = append(names, s.Name)
			}
		}
	}
	return rising(names)
}

func sectionNames(l []api.File) []string {
	var names []string
	for _, f := range l {
		for _, s := range f.Sections {
			names = append(names, s.Name)
		}
	}
	return rising(names)
}

func count(l []api.Symbol, holds func(api.Symbol) bool) int {
	n := 0
	for _, s := range l {
		if holds(s) {
			n++
		}
	}
	return n
}

func isStrong(s api.Symbol) bool  { return s.Section != "" && s.Bind == 1 }
func isDefined(s api.Symbol) bool { return s.Section != "" }
func isWanted(s api.Symbol) bool  { return s.Section == "" && s.Bind == 1 }
func isTls(s api.Symbol) bool     { return s.Type == 6 }
func isOther(s api.Symbol) bool   { return s.Type == 1 || s.Type == 2 || s.Type == 10 }

func areUnlike(l []api.File, name string) bool {
	var found []api.Section
	for _, f := range l {
		for _, s := range f.Sections {
			if s.Name == name {
				found = append(found, s)
			}
		}
	}
	for _, a := range found {
		for _, b := range found {
			if a.Type != b.Type || a.Flags != b.Flags {
				return true
			}
		}
	}
	return false
}

func modelFaults(l []api.File) []resolve.Fault {
	if modelCheck(l) != api.OK {
		return nil
	}
	var faults []resolve.Fault
	names := symbolNames(l)
	for _, n := range names {
		if count(named(l, n), isStrong) > 1 {
			faults = append(faults, fault(180, n))
		}
	}
	for _, n := range names {
		if count(named(l, n), isDefined) == 0 && count(named(l, n), isWanted) > 0 {
			faults = append(faults, fault(181, n))
		}
	}
	for _, n := range names {
		if count(named(l, n), isTls) > 0 && count(named(l, n), isOther) > 0 {
			faults = append(faults, fault(182, n))
		}
	}
	for _, n := range sectionNames(l) {
		if areUnlike(l, n) {
			faults = append(faults, fault(182, n))
		}
	}
	return faults
}

func modelAll(l []api.File) ([]resolve.Entry, resolve.Fault) {
	if e := modelCheck(l); e != api.OK {
		return nil, fault(e, "")
	}
	if f := modelFaults(l); len(f) > 0 {
		return nil, f[0]
	}
	var entries []resolve.Entry
	for _, n := range symbolNames(l) {
		entries = append(entries, modelMeaning(l, n))
	}
	return entries, resolve.Fault{}
}

// modelMeaning: of a name that is strongly defined twice the first one.
func modelMeaning(l []api.File, name string) resolve.Entry {
	for _, bind := range []int{1, 2} {
		for o, f := range l {
			for k, s := range f.Symbols {
				if s.Name == name && s.Bind == bind && s.Section != "" {
					return entry(name, o, k, bind, s.Type)
				}
			}
		}
	}
	return entry(name, -1, -1, 2, 0)
}

func modelLook(l []api.File, entries []resolve.Entry, object int, name string) (int, int, api.Errno) {
	if object < 0 || object >= len(l) {
		return 0, 0, 1
	}
	there := false
	for k, s := range l[object].Symbols {
		if s.Name == name && s.Bind == 0 {
			return object, k, 0
		}
		there = there || s.Name == name
	}
	for _, x := range entries {
		if there && x.Name == name {
			return x.Object, x.Symbol, 0
		}
	}
	return 0, 0, 3
}

// checkModel: all calls of these objects, and of each name that is there and some that are not.
func checkModel(t *testing.T, l []api.File) api.Errno {
	t.Helper()
	checkCheck(t, l, modelCheck(l))
	if modelCheck(l) == api.OK {
		checkFaults(t, l, modelFaults(l)...)
	}
	want, wantFault := modelAll(l)
	got, gotFault := resolve.All(l)
	if !slices.Equal(got, want) || gotFault != wantFault {
		t.Fatalf("All(%s): %s, %s; want %s, %s", short(l), short(got), short(gotFault), short(want), short(wantFault))
	}
	for o := -1; o <= len(l); o++ {
		for _, n := range append(symbolNames(l), "", "nobody", ".text") {
			object, symbol, e := modelLook(l, want, o, n)
			checkLook(t, l, want, o, n, object, symbol, e)
		}
	}
	return wantFault.E
}

// shapes of one symbol: each section, binding and type.
func allSymbols(name string) []api.Symbol {
	var l []api.Symbol
	for _, section := range []string{"", "*", ".text", ".data", ".tdata"} {
		for _, bind := range bindings() {
			for _, kind := range kinds() {
				l = append(l, symbol(name, section, 0, 0, bind, kind))
			}
		}
	}
	return l
}

// rightSymbols: those that an object may have.
func rightSymbols(name string) []api.Symbol {
	return slices.DeleteFunc(allSymbols(name), func(s api.Symbol) bool { return modelCheck(files(object(s))) != api.OK })
}

// TestP1801EachSymbol: each section, binding and type that one symbol may have, and may not have.
func TestP1801EachSymbol(t *testing.T) {
	l := allSymbols("a")
	for _, s := range l {
		checkModel(t, files(object(s)))
		checkModel(t, files(object(), object(local("b"), s)))
	}
	if right := len(rightSymbols("a")); right != 41 {
		t.Error(right, len(l))
	}
}

// TestP1802Pairs: each two and each three of one name, in objects of their own.
func TestP1802Pairs(t *testing.T) {
	l := rightSymbols("a")
	for _, a := range l {
		for _, b := range l {
			checkModel(t, files(object(a), object(b)))
		}
	}
	random := seeded(1)
	for range 20000 {
		checkModel(t, files(object(pick(random, l...)), object(pick(random, l...)), object(pick(random, l...))))
	}
}

// anyObject is one that mostly may be, and mostly agrees with others.
func anyObject(random *rand.Rand, wild int) api.File {
	odd := func() bool { return random.IntN(100) < wild }
	var f api.File
	for _, s := range []api.Section{text(), data(), tdata(), bss(), section(".init_array", api.InitArray, api.Alloc|api.Write, 8), section("x", api.ProgBits, 0, 3)} {
		switch {
		case random.IntN(4) == 0:
			continue
		case odd():
			s.Flags = pick(random, 0, 1, 2, 3, 4, 7, 8, 1024, 1031, -1)
		case odd():
			s.Type = pick(random, 0, 1, 8, 14, 15, 7)
		case odd():
			s.Align = pick(random, 0, 1, 3, 4096, 8192, -8)
		case odd():
			s.Size = pick(random, 0, 1, 8, 9, 1<<30, 1<<30+1, -1)
		}
		f.Sections = append(f.Sections, s)
	}
	random.Shuffle(len(f.Sections), func(i, j int) { f.Sections[i], f.Sections[j] = f.Sections[j], f.Sections[i] })
	for _, name := range []string{"a", "b", "c", "d", "B", "aa", ".text", "\xff"} {
		for range random.IntN(3) {
			if s := anySymbol(random, name, f.Sections, odd); symtab.Check(append(f.Symbols, s), sectionNames(files(f))) == api.OK || odd() {
				f.Symbols = append(f.Symbols, s)
			}
		}
	}
	random.Shuffle(len(f.Symbols), func(i, j int) { f.Symbols[i], f.Symbols[j] = f.Symbols[j], f.Symbols[i] })
	return f
}

func anySymbol(random *rand.Rand, name string, sections []api.Section, odd func() bool) api.Symbol {
	s := api.Symbol{Name: name, Bind: pick(random, 0, 1, 2, 2), Type: pick(random, 0, 0, 0, 1, 2)}
	if random.IntN(3) > 0 {
		s.Section = "*"
		for _, x := range sections {
			if random.IntN(3) == 0 {
				s.Section = x.Name
				if (x.Flags&api.TlsFlag != 0) != odd() {
					s.Type = api.Tls
				}
			}
		}
		s.Value, s.Size = random.IntN(3), random.IntN(2)
	}
	if s.Section == "" && name == "d" || odd() {
		s.Type = pick(random, kinds()...)
	}
	if odd() {
		s.Value = pick(random, 8, 9, 1<<30, 1<<62)
	}
	if odd() {
		s.Size = pick(random, 8, 9, 1<<30, 1<<62)
	}
	return s
}

// TestP18AsTheModel: rows of objects, tame and wild.
func TestP18AsTheModel(t *testing.T) {
	random := seeded(2)
	seen := map[api.Errno]int{}
	for k := range 12000 {
		var l []api.File
		for range random.IntN(5) {
			l = append(l, anyObject(random, k%4))
		}
		seen[checkModel(t, l)]++
	}
	for _, e := range []api.Errno{api.OK, api.ErrSymbol, api.ErrTwice, api.ErrUndefined, api.ErrType} {
		if seen[e] < 100 {
			t.Error(seen)
		}
	}
}
