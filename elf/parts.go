package elf

import (
	"gangway/api"
	"gangway/leb"
	"gangway/symtab"
)

// Names of parts that are no Sections; a table's has its Section's behind it.
const (
	tablePrefix   = ".rela"
	symbolsName   = ".symtab"
	stringsName   = ".strtab"
	headNamesName = ".shstrtab"
)

// Types of parts that are no Sections, and the flag of a table: its info is a part's number.
const (
	symbolsType = 2
	stringsType = 3
	tableType   = 4
	tableFlags  = 64
)

// wordAlign: of what is made of longs; symbolSize: of an entry of symtab's.
const (
	wordAlign  = 8
	symbolSize = 24
)

// part: of an object's file: its bytes, and what its head tells of it.
type part struct {
	name       string
	nameAt     int
	kind       int
	flags      int
	at, size   int
	link, info int
	align      int
	entrySize  int
	bytes      []byte
}

// partsOf: of an object that may be, all that have a head, in the order of these, which is the one in which they stand in the file, too. The name of a Section's table may be too long where the Section's is not.
func partsOf(f api.File) ([]part, api.Errno) {
	syms, strs, first, _ := symtab.Write(f.Symbols, namesOf(f.Sections))
	parts := sectionParts(f.Sections)
	tables := tableParts(f.Sections, symbolNumbers(f.Symbols))
	symbols := 1 + len(parts) + len(tables)
	for _, t := range tables {
		t.link = symbols
		parts = append(parts, t)
	}
	parts = append(parts,
		part{name: symbolsName, kind: symbolsType, size: len(syms), link: symbols + 1, info: first, align: wordAlign, entrySize: symbolSize, bytes: syms},
		part{name: stringsName, kind: stringsType, size: len(strs), align: 1, bytes: strs},
		part{name: headNamesName, kind: stringsType, align: 1})
	return named(parts)
}

func sectionParts(l []api.Section) []part {
	var parts []part
	for _, s := range l {
		p := part{name: s.Name, kind: s.Type, flags: s.Flags, size: s.Size, align: s.Align, bytes: s.Data}
		if s.Type == api.InitArray || s.Type == api.FiniArray {
			p.entrySize = 8
		}
		parts = append(parts, p)
	}
	return parts
}

// tableParts: of the Sections that have Relocs.
func tableParts(l []api.Section, numbers map[string]int) []part {
	var parts []part
	for k, s := range l {
		if len(s.Relocs) == 0 {
			continue
		}
		b := relocBytes(s.Relocs, numbers)
		parts = append(parts, part{name: tablePrefix + s.Name, kind: tableType, flags: tableFlags, size: len(b), info: k + 1, align: wordAlign, entrySize: relaSize, bytes: b})
	}
	return parts
}

// named: with the table of their names as the last part's bytes.
func named(parts []part) ([]part, api.Errno) {
	var names []string
	for _, p := range parts {
		names = append(names, p.name)
	}
	b, at, e := symtab.Strings(names)
	if e != api.OK {
		return nil, e
	}
	for k := range parts {
		parts[k].nameAt = at[k]
	}
	last := &parts[len(parts)-1]
	last.bytes, last.size = b, len(b)
	return parts, api.OK
}

// place: each part at the next multiple of its align; and where the heads begin. What is all 0 takes no room.
func place(parts []part) int {
	end := headSize
	for k := range parts {
		p := &parts[k]
		p.at, _ = leb.Align(end, p.align)
		if p.kind != api.NoBits {
			end = p.at + p.size
		}
	}
	heads, _ := leb.Align(end, wordAlign)
	return heads
}
