package resolve

import "gangway/api"

// names: what all objects together have of each symbol's name, and of each section's.
type names struct {
	uses   table[use]
	shapes table[shapes]
}

// use: of a name, by symbols that are not Local.
type use struct {
	meaning        Entry // if it is defined
	isDefined      bool
	strong         int  // so many definitions are
	isWanted       bool // a strong reference is there
	isTls, isOther bool // one has that Type, one has another
}

// shape: in which sections of one name must be alike.
type shape struct {
	kind, flags int
}

// shapes: of all sections of one name.
type shapes struct {
	first             shape
	isThere, isUnlike bool
}

// gather: of objects that may be.
func gather(l []api.File) names {
	x := names{newTable[use](), newTable[shapes]()}
	for object, f := range l {
		for symbol, s := range f.Symbols {
			if s.Bind != api.Local {
				x.uses.put(s.Name, x.uses.of(s.Name).with(s, object, symbol))
			}
		}
		for _, s := range f.Sections {
			x.shapes.put(s.Name, x.shapes.of(s.Name).with(shape{s.Type, s.Flags}))
		}
	}
	return x
}

func (u use) with(s api.Symbol, object, symbol int) use {
	if s.Section == "" {
		u.isWanted = u.isWanted || s.Bind == api.Global
	} else {
		u = u.defined(Entry{Name: s.Name, Object: object, Symbol: symbol, Bind: s.Bind, Type: s.Type})
	}
	u.isTls = u.isTls || s.Type == api.Tls
	u.isOther = u.isOther || s.Type != api.Tls && s.Type != api.NoType
	return u
}

func (u use) defined(x Entry) use {
	isStrong := x.Bind == api.Global
	// Which one of two strong definitions stays is never told: they are a fault.
	if isStrong || !u.isDefined {
		u.meaning = x
	}
	if isStrong {
		u.strong++
	}
	u.isDefined = true
	return u
}

func (l shapes) with(s shape) shapes {
	if !l.isThere {
		return shapes{first: s, isThere: true}
	}
	l.isUnlike = l.isUnlike || s != l.first
	return l
}

// faults: in the order in which they are told.
func (x names) faults() []Fault {
	uses := x.uses.rising()
	l := addFaults(nil, api.ErrTwice, uses, func(u use) bool { return u.strong > 1 })
	l = addFaults(l, api.ErrUndefined, uses, func(u use) bool { return u.isWanted && !u.isDefined })
	l = addFaults(l, api.ErrType, uses, func(u use) bool { return u.isTls && u.isOther })
	return addFaults(l, api.ErrType, x.shapes.rising(), func(l shapes) bool { return l.isUnlike })
}

func (x names) entries() []Entry {
	var l []Entry
	for _, r := range x.uses.rising() {
		if r.value.isDefined {
			l = append(l, r.value.meaning)
		} else {
			l = append(l, Entry{Name: r.name, Object: -1, Symbol: -1, Bind: api.Weak, Type: api.NoType})
		}
	}
	return l
}
