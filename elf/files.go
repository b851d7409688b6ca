package elf

import (
	"bytes"

	"gangway/api"
	"gangway/symtab"
)

// Where in a file's head stand: where it begins to run, where its heads of parts begin, how many segments and how many heads of parts there are.
const (
	startAt        = 24
	headsAt        = 40
	segmentCountAt = 56
	headCountAt    = 60
)

// wholeObject: what was read without a look (bytes that are always the same, where parts begin, those between them) is not as it would be written.
func (r *reader) wholeObject() api.File {
	f := r.object()
	again, e := Write(f)
	insist(e == api.OK && bytes.Equal(again, r.b))
	for k := range f.Sections {
		f.Sections[k].Data = bytes.Clone(f.Sections[k].Data)
	}
	return f
}

// wholeImage: as wholeObject.
func (r *reader) wholeImage() Image {
	i := r.image()
	again, e := Save(i)
	insist(e == api.OK && bytes.Equal(again, r.b))
	for k := range i.Loads {
		i.Loads[k] = bytes.Clone(i.Loads[k])
	}
	return i
}

// object: its Data are still the argument's own.
func (r *reader) object() api.File {
	parts := r.parts()
	fixed := len(parts) - 3
	syms, strs, names := parts[fixed], parts[fixed+1], parts[fixed+2]
	sections, tables := split(parts[:fixed])
	var f api.File
	for _, p := range sections {
		f.Sections = append(f.Sections, sectionOf(p, names.bytes))
	}
	var e api.Errno
	f.Symbols, e = symtab.Read(syms.bytes, strs.bytes, syms.info, namesOf(f.Sections))
	insist(e == api.OK)
	for _, p := range tables {
		insist(within(p.info, 1, len(f.Sections)))
		f.Sections[p.info-1].Relocs = relocsOf(p.bytes, f.Symbols)
	}
	return f
}

// parts: at least those three that no object lacks. The first head is no part's.
func (r *reader) parts() []part {
	r.at = headCountAt
	count := r.half()
	insist(within(count, 4, 4+2*maxSections))
	r.at = headsAt
	heads := r.long()
	insist(within(heads, 0, len(r.b)))
	r.at = heads + headSize
	return times(count-1, r.part)
}

func (r *reader) part() part {
	var p part
	p.nameAt, p.kind = r.word(), r.word()
	p.flags, _ = r.long(), r.long()
	p.at, p.size = r.long(), r.long()
	p.link, p.info = r.word(), r.word()
	p.align, p.entrySize = r.long(), r.long()
	if p.kind != api.NoBits {
		p.bytes = r.piece(p.at, p.size)
	}
	return p
}

// split: Sections stand ahead of all tables.
func split(l []part) (sections, tables []part) {
	for k, p := range l {
		if p.kind == tableType {
			return l[:k], l[k:]
		}
	}
	return l, nil
}

func sectionOf(p part, names []byte) api.Section {
	name, e := symtab.At(names, p.nameAt)
	insist(e == api.OK)
	return api.Section{Name: name, Type: p.kind, Flags: p.flags, Align: p.align, Data: p.bytes, Size: p.size}
}

// relocsOf: no more than may be, since many heads may tell the same great table.
func relocsOf(b []byte, symbols []api.Symbol) []api.Reloc {
	insist(len(b) <= relaSize*api.MaxRelocs)
	r := &reader{b: b}
	var l []api.Reloc
	for _, x := range times(len(b)/relaSize, r.rela) {
		l = append(l, api.Reloc{At: x.At, Type: x.Type & (1<<32 - 1), Symbol: symbolName(x.Type>>32, symbols), Add: x.Add})
	}
	return l
}

func symbolName(number int, symbols []api.Symbol) string {
	if number == 0 {
		return ""
	}
	insist(within(number, 1, len(symbols)))
	return symbols[number-1].Name
}

// image: its Loads are still the argument's own.
func (r *reader) image() Image {
	r.at = startAt
	i := Image{Entry: r.long()}
	r.at = segmentCountAt
	count := r.half()
	r.at = headSize
	i.Segments = times(count, r.segment)
	for _, s := range i.Segments {
		if s.Type == load {
			i.Loads = append(i.Loads, r.piece(s.Offset, s.Size))
		}
	}
	return i
}

func (r *reader) segment() api.Segment {
	var s api.Segment
	s.Type, s.Flags = r.word(), r.word()
	s.Offset = r.long()
	s.Addr, _ = r.long(), r.long()
	s.Size, s.Memory, s.Align = r.long(), r.long(), r.long()
	return s
}
