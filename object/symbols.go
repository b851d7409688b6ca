package object

import (
	"math"

	"gangway/api"
)

// addSymbols: those of sections, then labels, then names that are none.
func (x *source) addSymbols(f *api.File) api.Errno {
	l := &table{had: map[string]int{}}
	for _, s := range x.sections {
		if !s.isNamed() {
			continue
		}
		if _, ok := x.labelOf(s.name); ok {
			return api.ErrLabel
		}
		l.add(api.Symbol{Name: s.name, Section: s.name})
	}
	for _, n := range x.labels {
		s, e := x.labelSymbol(n)
		if e != api.OK {
			return e
		}
		l.add(s)
	}
	for _, s := range f.Sections {
		for _, r := range s.Relocs {
			l.add(x.outside(r.Symbol))
		}
	}
	for _, name := range x.binds {
		if x.tell(name).bind != api.Local {
			l.add(x.outside(name))
		}
	}
	f.Symbols = l.symbols
	return api.OK
}

// table: symbols, of each name the first one.
type table struct {
	symbols []api.Symbol
	had     map[string]int
}

func (t *table) add(s api.Symbol) {
	if _, ok := t.had[s.Name]; ok {
		return
	}
	t.had[s.Name] = len(t.symbols)
	t.symbols = append(t.symbols, s)
}

func (x *source) labelSymbol(l label) (api.Symbol, api.Errno) {
	t := x.tell(l.name)
	size, e := x.sizeOf(t)
	s := api.Symbol{Name: l.name, Section: l.in.name, Value: l.at(), Size: size, Bind: t.bind, Type: t.kind}
	if !t.isTyped && l.in.has(api.TlsFlag) {
		s.Type = api.Tls
	}
	return s, e
}

// sizeOf: what was told of a label's size. One above all ints is as wrong as the greatest int is.
func (x *source) sizeOf(t *told) (int, api.Errno) {
	between := 0
	if !isNumber(t.size) {
		n, ok := x.between(t.size.Plus, t.size.Minus)
		if !ok {
			return 0, api.ErrExpr
		}
		between = n
	}
	n, past := sum(between, t.size.N)
	switch {
	case past > 0:
		return math.MaxInt, api.OK
	case past < 0 || n < 0:
		return 0, api.ErrExpr
	}
	return n, api.OK
}

// outside is the symbol of a name that is no label.
func (x *source) outside(name string) api.Symbol {
	t := x.tell(name)
	s := api.Symbol{Name: name, Bind: t.bind, Type: t.kind}
	switch {
	case t.isBound:
	case name == tlsCall:
		s.Bind = api.Weak
	default:
		s.Bind = api.Global
	}
	return s
}
