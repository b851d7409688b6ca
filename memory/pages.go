package memory

import (
	"iter"

	"gangway/api"
)

// page: one that is there.
type page struct {
	may   int
	bytes [api.PageSize]byte
}

// span: numbers of pages, from first up to ahead of end.
type span struct{ first, end uint64 }

// named: the pages that a call names; with an error none.
func (m *Memory) named(addr uint64, pages, may int) (span, api.Errno) {
	switch {
	case !m.made() || pages < 1 || may < 0 || may > R|W|X:
		return span{}, api.ErrArg
	case addr%api.PageSize != 0 || addr > Top:
		return span{}, api.ErrRange
	case uint64(pages) > (Top-addr)/api.PageSize:
		// Asked by a quotient: the product might not be an int.
		return span{}, api.ErrRange
	}
	first := addr / api.PageSize
	return span{first, first + uint64(pages)}, api.OK
}

// namedThere: the same, of pages all of which must be there.
func (m *Memory) namedThere(addr uint64, pages, may int) (span, api.Errno) {
	s, e := m.named(addr, pages, may)
	if e == api.OK && m.present(s) < pages {
		return span{}, api.ErrPage
	}
	return s, e
}

// present: how many of them are there. It goes through those that are: a span may have many more.
func (m *Memory) present(s span) int {
	n := 0
	for number := range m.pages {
		if s.first <= number && number < s.end {
			n++
		}
	}
	return n
}

// walk: over the pages of an access, in their order: of each the bytes that are meant, as they lie in it. It ends ahead of the first page that is not there, or with which not all of may may be done.
// Since no page at or above Top is there, it never comes to the last of all addresses, where it would have to begin anew.
func (m *Memory) walk(addr uint64, n, may int) iter.Seq[[]byte] {
	return func(yield func([]byte) bool) {
		number, from := addr/api.PageSize, int(addr%api.PageSize)
		for left := n; left > 0; number, from = number+1, 0 {
			p := m.pages[number]
			if p == nil || p.may&may != may {
				return
			}
			piece := p.bytes[from:min(from+left, api.PageSize)]
			if !yield(piece) {
				return
			}
			left -= len(piece)
		}
	}
}

// take: fills b, up to the first byte with which may may not be done; how many it filled.
func (m *Memory) take(addr uint64, b []byte, may int) int {
	n := 0
	for piece := range m.walk(addr, len(b), may) {
		n += copy(b[n:], piece)
	}
	return n
}

// give: puts b there, if may may be done with all of its places; else nothing, and the error.
func (m *Memory) give(addr uint64, b []byte, may int, refused api.Errno) api.Errno {
	switch {
	case !m.made():
		return api.ErrArg
	case len(b) > api.MaxBytes:
		return api.ErrSize
	case !m.reaches(addr, len(b), may):
		return refused
	}
	n := 0
	for piece := range m.walk(addr, len(b), may) {
		n += copy(piece, b[n:])
	}
	return api.OK
}

// reaches: whether a walk comes to all n bytes.
func (m *Memory) reaches(addr uint64, n, may int) bool {
	for piece := range m.walk(addr, n, may) {
		n -= len(piece)
	}
	return n == 0
}
