package object

import (
	"gangway/api"
	"gangway/lines"
)

const linesName = ".debug_line"

// fileNames: all from 1 to the greatest number. One that has none is "", which is no program's.
func (x *source) fileNames() []string {
	last := 0
	for n, name := range x.files {
		if name != "" {
			last = n
		}
	}
	return x.files[1 : last+1]
}

// sequence: of a section, whose address is left to the linker.
func (s *section) sequence() lines.Seq {
	seq := lines.Seq{Size: s.size()}
	for _, l := range s.locs {
		seq.Rows = append(seq.Rows, lines.Row{At: l.at(), File: l.file, Line: l.line, Column: l.column})
	}
	return seq
}

// program: of all sections with a Loc, and the names of these, in order.
func (x *source) program() (p lines.Program, starts []string) {
	p.Files = x.fileNames()
	for _, s := range x.sections {
		if len(s.locs) > 0 {
			p.Seqs = append(p.Seqs, s.sequence())
			starts = append(starts, s.name)
		}
	}
	return p, starts
}

// addLines: the section of all lines, if a statement told one.
func (x *source) addLines(f *api.File) api.Errno {
	if !x.isLined {
		return api.OK
	}
	if x.isThere(linesName) {
		return api.ErrType
	}
	p, starts := x.program()
	b, at, e := lines.Write(p)
	if e != api.OK {
		return e
	}
	var relocs []api.Reloc
	for k, name := range starts {
		relocs = append(relocs, api.Reloc{At: at[k], Type: api.R64, Symbol: name})
	}
	f.Sections = append(f.Sections, api.Section{Name: linesName, Type: api.ProgBits, Align: 1, Data: b, Size: len(b), Relocs: relocs})
	return api.OK
}
