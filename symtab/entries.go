package symtab

import (
	"gangway/api"
	"gangway/leb"
)

// entrySize: as many bytes as all fields of an entry have together.
const entrySize = 24

// fieldSizes: of an entry's numbers: where the name begins, binding and type, one that is 0, the section, Value, Size.
var fieldSizes = [...]int{4, 1, 1, 2, 8, 8}

// localsFirst: the same symbols in the order in which they are written, and how many of them are Local.
func localsFirst(l []api.Symbol) (sorted []api.Symbol, locals int) {
	var others []api.Symbol
	for _, s := range l {
		if s.Bind == api.Local {
			sorted = append(sorted, s)
		} else {
			others = append(others, s)
		}
	}
	return append(sorted, others...), len(sorted)
}

// appendEntry: of a symbol that may be, so that each number fits into its field.
func appendEntry(b []byte, s api.Symbol, name, section int) []byte {
	fields := [len(fieldSizes)]int{name, 16*s.Bind + s.Type, 0, section, s.Value, s.Size}
	for k, n := range fields {
		field, _ := leb.Put(n, fieldSizes[k])
		b = append(b, field...)
	}
	return b
}

// reader: of entries, one behind the other. It gives up by a panic with an error's number at the first thing that no entry has.
type reader struct {
	syms, strs []byte
	sections   []string
	at         int
}

// insist: where this does not hold there are no symbols.
func insist(holds bool) {
	if !holds {
		panic(api.ErrSymbol)
	}
}

// symbols: all of them, without the first entry, which is no symbol's.
func (r *reader) symbols() []api.Symbol {
	var l []api.Symbol
	for r.at = entrySize; r.at < len(r.syms); {
		l = append(l, r.symbol())
	}
	return l
}

func (r *reader) symbol() api.Symbol {
	var fields [len(fieldSizes)]int
	for k, size := range fieldSizes {
		fields[k] = r.number(size)
	}
	return api.Symbol{
		Name:    r.name(fields[0]),
		Bind:    fields[1] / 16,
		Type:    fields[1] % 16,
		Section: r.section(fields[3]),
		Value:   fields[4],
		Size:    fields[5],
	}
}

func (r *reader) number(size int) int {
	n, e := leb.Get(r.syms, r.at, size, false)
	insist(e == api.OK)
	r.at += size
	return n
}

func (r *reader) name(at int) string {
	name, e := At(r.strs, at)
	insist(e == api.OK)
	return name
}

func (r *reader) section(number int) string {
	switch number {
	case undefined:
		return ""
	case absolute:
		return "*"
	}
	insist(number <= len(r.sections))
	return r.sections[number-1]
}
