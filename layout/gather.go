package layout

import (
	"cmp"
	"slices"

	"gangway/api"
)

// Groups of sections, in the order in which the image has them; those of none are not laid out.
const (
	none = iota
	readOnly
	code
	tlsData
	tlsRoom
	initArray
	finiArray
	data
	room
	groups
)

// merged: all sections of one name, and what they become, but its place.
type merged struct {
	output Output
	parts  []part
}

// part: a section of an object.
type part struct {
	object, section int
}

// gather: of objects that resolve takes, by the sections' names.
func gather(l []api.File) (map[string]merged, api.Errno) {
	sections := map[string]merged{}
	for object, f := range l {
		for section, s := range f.Sections {
			m, known := sections[s.Name]
			if !known {
				m.output = Output{Name: s.Name, Type: s.Type, Flags: s.Flags}
			}
			if isMixed(s) || s.Type != m.output.Type || s.Flags != m.output.Flags {
				return nil, api.ErrType
			}
			m.output.Align = max(m.output.Align, s.Align)
			m.parts = append(m.parts, part{object, section})
			sections[s.Name] = m
		}
	}
	return sections, api.OK
}

// isMixed: laid out, for executing and for what may not be executed.
func isMixed(s api.Section) bool {
	const laidCode = api.Alloc | api.Exec
	return s.Flags&laidCode == laidCode && s.Flags&(api.Write|api.TlsFlag) != 0
}

// byGroups: the names of each group, in the order in which they first stand.
func byGroups(sections map[string]merged) [groups][]string {
	var names []string
	for name := range sections {
		names = append(names, name)
	}
	sortBy(names, func(name string) int {
		x := sections[name].parts[0]
		return x.object*api.MaxSections + x.section
	})
	var l [groups][]string
	for _, name := range names {
		g := groupOf(sections[name].output)
		l[g] = append(l[g], name)
	}
	return l
}

func sortBy(names []string, key func(name string) int) {
	slices.SortFunc(names, func(a, b string) int { return cmp.Compare(key(a), key(b)) })
}

func groupOf(o Output) int {
	isNoBits := o.Type == api.NoBits
	switch {
	case o.Flags&api.Alloc == 0:
		return none
	case o.Flags&(api.Write|api.Exec|api.TlsFlag) == 0:
		return readOnly
	case o.Flags&api.Exec != 0:
		return code
	case o.Flags&api.TlsFlag != 0 && !isNoBits:
		return tlsData
	case o.Flags&api.TlsFlag != 0:
		return tlsRoom
	case o.Type == api.InitArray:
		return initArray
	case o.Type == api.FiniArray:
		return finiArray
	case !isNoBits:
		return data
	}
	return room
}
