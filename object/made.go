package object

import (
	"gangway/api"
	"gangway/elf"
)

// object is what all statements told, made in the order in which errors come up.
func (x *source) object() (api.File, api.Errno) {
	var f api.File
	steps := [...]func(*api.File) api.Errno{x.addSections, x.addFrames, x.addLines, x.addSymbols, check}
	for _, step := range steps {
		if e := step(&f); e != api.OK {
			return api.File{}, e
		}
	}
	return f, api.OK
}

func check(f *api.File) api.Errno { return elf.Check(*f) }

// addSections: all places first, since a value may name a label of any section.
func (x *source) addSections(f *api.File) api.Errno {
	for _, s := range x.sections {
		if e := s.lay(len(x.sections) <= maxSections); e != api.OK {
			return e
		}
	}
	for _, s := range x.sections {
		for _, put := range s.later {
			if e := put(); e != api.OK {
				return e
			}
		}
		f.Sections = append(f.Sections, s.made())
	}
	return api.OK
}

func (x *source) isThere(name string) bool {
	s, ok := x.named[name]
	return ok && s.there
}
