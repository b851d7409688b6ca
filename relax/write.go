package relax

import (
	"bytes"

	"gangway/api"
	"gangway/encode"
)

// writer: the bytes so far, so that their end is the next piece's place; and what goes with them.
type writer struct {
	at     []int
	b      []byte
	relocs []api.Reloc
	labels []Label
}

// write fills a near operand in; any other hole is left to the linker.
func (c *code) write(w *writer) api.Errno {
	b, at := c.b, len(w.b)
	for _, h := range c.holes {
		if c.goal == none {
			w.relocs = append(w.relocs, api.Reloc{At: at + h.At, Type: h.Type, Symbol: h.Name, Add: h.Add})
			continue
		}
		filled, e := encode.Fill(b, h, w.at[c.goal]-(at+len(b))+c.plus)
		if e != api.OK {
			return e
		}
		b = filled
	}
	w.b = append(w.b, b...)
	return api.OK
}

func (r raw) write(w *writer) api.Errno {
	w.b = append(w.b, r...)
	return api.OK
}

func (m mark) write(w *writer) api.Errno {
	w.labels = append(w.labels, Label{Name: string(m), At: len(w.b)})
	return api.OK
}

func (a align) write(w *writer) api.Errno {
	w.fill(a.fill, room(a, len(w.b)))
	return api.OK
}

func (s space) write(w *writer) api.Errno {
	w.fill(s.fill, s.n)
	return api.OK
}

func (w *writer) fill(b byte, n int) {
	w.b = append(w.b, bytes.Repeat([]byte{b}, n)...)
}
