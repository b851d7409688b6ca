package object

import (
	"gangway/api"
	"gangway/expr"
	"gangway/parse"
	"gangway/relax"
)

const (
	// tlsCall: the function that answers where thread-local data are. The linker may take the calls away, so nobody need have it.
	tlsCall = "__tls_get_addr"
	// tlsAdd: a place counts from behind its 4 bytes.
	tlsAdd = -4
)

// doer: what a statement of a kind does.
func doer(kind int) func(*source, parse.Stmt) api.Errno {
	return [...]func(*source, parse.Stmt) api.Errno{
		parse.Label:   (*source).label,
		parse.Code:    (*source).code,
		parse.Section: (*source).choose,
		parse.Data:    (*source).data,
		parse.Ascii:   (*source).ascii,
		parse.Align:   (*source).align,
		parse.Zero:    (*source).zero,
		parse.Bind:    (*source).bind,
		parse.Type:    (*source).symbolType,
		parse.Size:    (*source).size,
		parse.Set:     (*source).set,
		parse.Cfi:     (*source).cfi,
		parse.File:    (*source).file,
		parse.Loc:     (*source).loc,
		parse.Tlsgd:   (*source).tlsgd,
		parse.Tlsld:   (*source).tlsld,
	}[kind]
}

func (x *source) label(s parse.Stmt) api.Errno {
	if _, twice := x.numbers[s.Name]; twice {
		return api.ErrLabel
	}
	x.numbers[s.Name] = len(x.labels)
	x.labels = append(x.labels, label{s.Name, x.chosen.end()})
	x.put(relax.Item{Kind: relax.Mark, Name: s.Name})
	return api.OK
}

func (x *source) code(s parse.Stmt) api.Errno {
	if !x.chosen.has(api.Exec) {
		return api.ErrType
	}
	x.put(relax.Item{Kind: relax.Code, Inst: s.Inst})
	return api.OK
}

func (x *source) choose(s parse.Stmt) api.Errno {
	kind, flags := s.Args[0], s.Args[1]
	c, ok := x.named[s.Name]
	if !ok {
		c = &section{name: s.Name}
		x.named[s.Name] = c
	}
	if c.there && (c.kind != kind || c.flags != flags) {
		return api.ErrType
	}
	c.kind, c.flags = kind, flags
	x.enter(c)
	x.chosen = c
	return api.OK
}

func (x *source) data(s parse.Stmt) api.Errno {
	size := s.Args[0]
	for _, v := range s.Values {
		if isNumber(v) && !fits(v.N, 0, size) {
			return api.ErrRange
		}
	}
	for _, v := range s.Values {
		x.value(v, size)
	}
	return api.OK
}

// value: of one with names it is known later what stands there.
func (x *source) value(v expr.Value, size int) {
	here, n := x.chosen.end(), v.N
	if !isNumber(v) {
		n = 0
		x.later(func() api.Errno { return x.putIn(v, here, size) })
	}
	x.put(relax.Item{Kind: relax.Raw, Data: lowBytes(n, size)})
}

func (x *source) later(put func() api.Errno) { x.chosen.later = append(x.chosen.later, put) }

func (x *source) ascii(s parse.Stmt) api.Errno {
	x.put(relax.Item{Kind: relax.Raw, Data: []byte(s.Text)})
	return api.OK
}

func (x *source) align(s parse.Stmt) api.Errno {
	x.put(relax.Item{Kind: relax.Align, N: s.Args[0], Fill: byte(s.Args[1])})
	return api.OK
}

func (x *source) zero(s parse.Stmt) api.Errno {
	x.put(relax.Item{Kind: relax.Space, N: s.Args[0], Fill: byte(s.Args[1])})
	return api.OK
}

func (x *source) bind(s parse.Stmt) api.Errno {
	t := x.tell(s.Name)
	t.bind, t.isBound = s.Args[0], true
	x.binds = append(x.binds, s.Name)
	return api.OK
}

func (x *source) symbolType(s parse.Stmt) api.Errno {
	t := x.tell(s.Name)
	t.kind, t.isTyped = s.Args[0], true
	return api.OK
}

func (x *source) size(s parse.Stmt) api.Errno {
	x.tell(s.Name).size = s.Values[0]
	return api.OK
}

// set: the name stands for its value in expressions already.
func (x *source) set(parse.Stmt) api.Errno { return api.OK }

func (x *source) file(s parse.Stmt) api.Errno {
	name := &x.files[s.Args[0]]
	if *name != "" && *name != s.Text {
		return api.ErrLine
	}
	*name = s.Text
	return api.OK
}

func (x *source) loc(s parse.Stmt) api.Errno {
	if x.files[s.Args[0]] == "" {
		return api.ErrLine
	}
	if !x.chosen.has(api.Exec) {
		return api.ErrType
	}
	x.chosen.locs = append(x.chosen.locs, loc{x.chosen.end(), s.Args[0], s.Args[1], s.Args[2]})
	x.isLined = true
	return api.OK
}

func (x *source) tlsgd(s parse.Stmt) api.Errno {
	b := []byte{102, 72, 141, 61, 0, 0, 0, 0, 102, 102, 72, 232, 0, 0, 0, 0}
	return x.access(b, api.Reloc{At: 4, Type: api.RTlsgd, Symbol: s.Name}, 12)
}

func (x *source) tlsld(parse.Stmt) api.Errno {
	b := []byte{72, 141, 61, 0, 0, 0, 0, 232, 0, 0, 0, 0}
	return x.access(b, api.Reloc{At: 3, Type: api.RTlsld, Symbol: tlsCall}, 8)
}

// access: bytes that ask for what is thread-local, and at call that the function which answers is called.
func (x *source) access(b []byte, asks api.Reloc, call int) api.Errno {
	if !x.chosen.has(api.Exec) {
		return api.ErrType
	}
	here := x.chosen.end()
	x.later(func() api.Errno {
		here.in.leave(here.at()+asks.At, asks.Type, asks.Symbol, tlsAdd)
		here.in.leave(here.at()+call, api.RPlt32, tlsCall, tlsAdd)
		return api.OK
	})
	x.put(relax.Item{Kind: relax.Raw, Data: b})
	return api.OK
}
