package layout

import (
	"gangway/api"
	"gangway/leb"
)

// greatestEnd: where the image ends at the farthest.
const greatestEnd = 16 * api.MaxBytes

// work: objects while they are laid out.
type work struct {
	files    []api.File
	sections map[string]merged
	at       [][]int
	outputs  []Output
	end      int
}

func newWork(l []api.File, sections map[string]merged) *work {
	w := &work{files: l, sections: sections, end: api.PageSize}
	for _, f := range l {
		places := make([]int, len(f.Sections))
		for k := range places {
			places[k] = -1
		}
		w.at = append(w.at, places)
	}
	return w
}

// lay gives each name its place, group by group.
func (w *work) lay(l [groups][]string) api.Errno {
	pages := none
	e := api.OK
places:
	for g := readOnly; g < groups; g++ {
		for _, name := range l[g] {
			if pages != pagesOf(g) {
				pages = pagesOf(g)
				w.end = up(w.end, api.PageSize)
			}
			w.put(name)
			// The first place that goes over the end decides, since all others lie behind it.
			if w.end > greatestEnd {
				e = api.ErrSize
				break places
			}
		}
	}
	return e
}

// pagesOf: groups with one answer may share pages: those that may be written all do.
func pagesOf(group int) int { return min(group, tlsData) }

// put lays the sections of a name behind all that is laid.
func (w *work) put(name string) {
	m := w.sections[name]
	o := m.output
	o.Addr = up(w.end, o.Align)
	w.end = o.Addr
	for _, x := range m.parts {
		s := w.files[x.object].Sections[x.section]
		at := up(w.end, s.Align)
		w.at[x.object][x.section] = at
		w.end = at + s.Size
	}
	o.Size = w.end - o.Addr
	w.outputs = append(w.outputs, o)
}

// up: the next multiple of an align that may be.
func up(n, align int) int {
	n, _ = leb.Align(n, align)
	return n
}

func (w *work) tell() Map {
	m := Map{Outputs: w.outputs, At: w.at, Segments: segments(w.outputs), End: w.end}
	for _, s := range m.Segments {
		if s.Type == Tls {
			m.Tls, m.TlsSize, m.TlsAlign = s.Addr, s.Memory, s.Align
			m.Tp = s.Addr + up(s.Memory, s.Align)
		}
	}
	return m
}
