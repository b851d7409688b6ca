package resolve

import (
	"gangway/api"
	"gangway/symtab"
)

const (
	greatestAlign = 4096
	greatestRoom  = 1 << 30
)

// number: instead of a section's name: of a symbol that is in none and has a number.
const number = "*"

func checkObject(f api.File) api.Errno {
	var names []string
	for _, s := range f.Sections {
		names = append(names, s.Name)
	}
	if e := symtab.Check(f.Symbols, names); e != api.OK {
		return e
	}
	if !isRight(f) {
		return api.ErrSymbol
	}
	return api.OK
}

// isRight: of an object whose names and symbols symtab takes.
func isRight(f api.File) bool {
	sections := newTable[api.Section]()
	for _, s := range f.Sections {
		if !isSection(s) {
			return false
		}
		sections.put(s.Name, s)
	}
	for _, s := range f.Symbols {
		if !isSymbol(s, sections.of(s.Section)) {
			return false
		}
	}
	return true
}

func isSection(s api.Section) bool {
	const flags = api.Write | api.Alloc | api.Exec | api.TlsFlag
	if s.Flags&^flags != 0 || !isAlign(s.Align) {
		return false
	}
	switch s.Type {
	case api.ProgBits, api.InitArray, api.FiniArray:
		return s.Size == len(s.Data)
	case api.NoBits:
		return len(s.Data) == 0 && s.Size >= 0 && s.Size <= greatestRoom
	}
	return false
}

func isAlign(n int) bool { return n > 0 && n <= greatestAlign && n&(n-1) == 0 }

// isSymbol: whether it may be in its section, which is a zero one, if there is none.
func isSymbol(s api.Symbol, in api.Section) bool {
	if s.Type == api.Ifunc && in.Flags&api.Exec == 0 {
		return false
	}
	switch s.Section {
	case "":
		return true
	case number:
		return s.Type != api.Tls
	}
	// No sum, which may be more than the greatest int. A Size is at least 0, so that a Value past the end leaves no room for it.
	isWithin := s.Size <= in.Size-s.Value
	return isWithin && (s.Type == api.Tls) == (in.Flags&api.TlsFlag != 0)
}
