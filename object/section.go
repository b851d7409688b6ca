package object

import (
	"cmp"
	"slices"

	"gangway/api"
	"gangway/relax"
)

const (
	// maxSections: so many an object may have.
	maxSections = 28
	// codeAlign: the least Align of a section with Exec.
	codeAlign = 16
)

// items: one behind the other, as they came.
type items struct {
	list []relax.Item
}

func (l *items) put(i relax.Item) { l.list = append(l.list, i) }

// align is the greatest one that is asked for.
func (l *items) align() int {
	n := 1
	for _, i := range l.list {
		if i.Kind == relax.Align {
			n = max(n, i.N)
		}
	}
	return n
}

// section: one under work. Places, bytes and relocations are there when it is laid out.
type section struct {
	items
	name        string
	kind, flags int
	there       bool // some statement chose it, or put something into it
	isFramed    bool // a procedure begins in it
	locs        []loc
	later       []func() api.Errno // what is put in when all sections' places are known
	at          []int              // each item's place, and one more: where the last one ends
	data        []byte
	relocs      []api.Reloc
}

// spot: ahead of the item of that number, or where the last one ends.
type spot struct {
	in   *section
	item int
}

// at: how many bytes are ahead of it.
func (p spot) at() int { return p.in.at[p.item] }

// end: where the next item comes, whether one does or not.
func (s *section) end() spot { return spot{s, len(s.list)} }

// isNamed: by the table of frames, or by that of lines.
func (s *section) isNamed() bool { return s.isFramed || len(s.locs) > 0 }

func (s *section) has(flag int) bool { return s.flags&flag != 0 }

func (s *section) size() int { return s.at[len(s.list)] }

// lay finds places, bytes and relocations. Bytes that nobody will see are not kept: there may be very many.
func (s *section) lay(keeps bool) api.Errno {
	b, relocs, _, e := relax.Bytes(s.list)
	if e != api.OK {
		return e
	}
	// What has bytes has places.
	laid, _ := relax.Layout(s.list)
	s.at, s.relocs = append(laid.At, laid.Size), relocs
	if keeps && s.kind != api.NoBits {
		s.data = b
	}
	return api.OK
}

// set puts a number into so many bytes, as far as these are kept.
func (s *section) set(at, size, n int) {
	if s.data != nil {
		copy(s.data[at:], lowBytes(n, size))
	}
}

func (s *section) leave(at, kind int, name string, add int) {
	s.relocs = append(s.relocs, api.Reloc{At: at, Type: kind, Symbol: name, Add: add})
}

// made is the object's section.
func (s *section) made() api.Section {
	align := s.align()
	if s.has(api.Exec) {
		align = max(align, codeAlign)
	}
	slices.SortStableFunc(s.relocs, func(a, b api.Reloc) int { return cmp.Compare(a.At, b.At) })
	return api.Section{Name: s.name, Type: s.kind, Flags: s.flags, Align: align, Data: s.data, Size: s.size(), Relocs: s.relocs}
}
