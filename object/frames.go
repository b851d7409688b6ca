package object

import (
	"gangway/api"
	"gangway/cfa"
	"gangway/ehframe"
	"gangway/parse"
)

const (
	framesName  = ".eh_frame"
	framesAlign = 8
	frameEnc    = ehframe.Pcrel + ehframe.S4
	beginBehind = 8 // bytes: where a record's Begin stands
	beginSize   = 4
)

func (x *source) cfi(s parse.Stmt) api.Errno {
	switch s.Name {
	case "startproc":
		return x.startProcedure(s.Line)
	case "endproc":
		return x.endProcedure()
	}
	if !x.isOpenHere() {
		return api.ErrCfa
	}
	x.open.events = append(x.open.events, event{x.chosen.end(), s.Name, s.Args})
	return api.OK
}

func (x *source) isOpenHere() bool { return x.open != nil && x.open.begin.in == x.chosen }

func (x *source) startProcedure(line int) api.Errno {
	if x.open != nil || !x.chosen.has(api.Exec) {
		return api.ErrCfa
	}
	x.open = &procedure{begin: x.chosen.end(), line: line}
	x.procedures = append(x.procedures, x.open)
	x.chosen.isFramed = true
	return api.OK
}

func (x *source) endProcedure() api.Errno {
	if !x.isOpenHere() {
		return api.ErrCfa
	}
	x.open.end = x.chosen.end()
	x.open = nil
	return api.OK
}

// entry is the procedure's in the table of frames. Its Begin is not known here: it is left to the linker.
func (p *procedure) entry() (ehframe.Fde, api.Errno) {
	begin, size := p.begin.at(), p.end.at()-p.begin.at()
	var l []cfa.Event
	for _, v := range p.events {
		l = append(l, cfa.Event{At: v.at() - begin, Name: v.name, Args: v.args})
	}
	ops, e := cfa.Compile(l, size)
	return ehframe.Fde{Size: size, Ops: ops}, e
}

// entries: one for each procedure, in the order in which they began.
func (x *source) entries() ([]ehframe.Fde, api.Errno) {
	var l []ehframe.Fde
	for _, p := range x.procedures {
		entry, e := p.entry()
		if e != api.OK {
			return nil, e
		}
		l = append(l, entry)
	}
	return l, api.OK
}

// addFrames: the section of all procedures' rules, if there are any.
func (x *source) addFrames(f *api.File) api.Errno {
	if len(x.procedures) == 0 {
		return api.OK
	}
	if x.isThere(framesName) {
		return api.ErrType
	}
	l, e := x.entries()
	if e != api.OK {
		return e
	}
	b, at, e := ehframe.Write([]ehframe.Cie{{Enc: frameEnc, Initial: cfa.Usual()}}, l, 0, false)
	if e != api.OK {
		return e
	}
	var relocs []api.Reloc
	for k, p := range x.procedures {
		begin := at[k] + beginBehind
		clear(b[begin : begin+beginSize])
		relocs = append(relocs, api.Reloc{At: begin, Type: api.RPc32, Symbol: p.begin.in.name, Add: p.begin.at()})
	}
	f.Sections = append(f.Sections, api.Section{Name: framesName, Type: api.ProgBits, Flags: api.Alloc, Align: framesAlign, Data: b, Size: len(b), Relocs: relocs})
	return api.OK
}
