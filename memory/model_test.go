package memory_test

import (
	"bytes"
	"testing"

	"gangway/api"
	"gangway/memory"
)

// model: the chapter's words, byte by byte and as slow as they are: what may be done by pages, and the bytes that are not 0 by addresses.
type model struct {
	may   map[uint64]int
	bytes map[uint64]byte
}

func (m *model) numbers(addr uint64, pages, may int) api.Errno {
	switch {
	case pages < 1 || may < 0 || may > 7:
		return api.ErrArg
	case addr%size != 0 || addr > top || uint64(pages) > top/size || addr+uint64(pages)*size > top:
		return api.ErrRange
	}
	return api.OK
}

func (m *model) there(addr uint64, pages int) (n int) {
	for k := range pages {
		if _, is := m.may[addr+uint64(k)*size]; is {
			n++
		}
	}
	return n
}

func (m *model) mapped(addr uint64, pages, may int) api.Errno {
	switch e := m.numbers(addr, pages, may); {
	case e != api.OK:
		return e
	case m.there(addr, pages) > 0:
		return api.ErrPage
	case len(m.may)+pages > api.MaxPages:
		return api.ErrSize
	}
	for k := range pages {
		m.may[addr+uint64(k)*size] = may
	}
	return api.OK
}

func (m *model) unmapped(addr uint64, pages int) api.Errno {
	switch e := m.numbers(addr, pages, 0); {
	case e != api.OK:
		return e
	case m.there(addr, pages) < pages:
		return api.ErrPage
	}
	for k := range pages {
		delete(m.may, addr+uint64(k)*size)
	}
	for at := range uint64(pages) * size {
		delete(m.bytes, addr+at)
	}
	return api.OK
}

func (m *model) protected(addr uint64, pages, may int) api.Errno {
	switch e := m.numbers(addr, pages, may); {
	case e != api.OK:
		return e
	case m.there(addr, pages) < pages:
		return api.ErrPage
	}
	for k := range pages {
		m.may[addr+uint64(k)*size] = may
	}
	return api.OK
}

// free: how many of n bytes from addr on may be so, up to the first that may not.
func (m *model) free(addr uint64, n, may int) int {
	for k := range n {
		at := addr + uint64(k)
		got, is := m.may[at-at%size]
		if at < addr || at >= top || !is || got&may != may {
			return k
		}
	}
	return n
}

func (m *model) read(addr uint64, n int) []byte {
	var b []byte
	for k := range n {
		b = append(b, m.bytes[addr+uint64(k)])
	}
	return b
}

func (m *model) write(addr uint64, b []byte, may int, refused api.Errno) api.Errno {
	if m.free(addr, len(b), may) < len(b) {
		return refused
	}
	for k, x := range b {
		m.bytes[addr+uint64(k)] = x
	}
	return api.OK
}

// dice: numbers that look wild, the same ones each time.
type dice uint64

func (d *dice) upTo(n int) int {
	*d = *d*6364136223846793005 + 1442695040888963407
	return int(uint64(*d)>>33) % n
}

// place: an address near the end of a page, of Top or of all.
func (d *dice) place() uint64 {
	page := []uint64{0, size, 2 * size, 3 * size, 4 * size, top - 2*size, top - size, top, last - size + 1}[d.upTo(9)]
	return page + []uint64{0, 0, 1, uint64(d.upTo(size)), size - 8, size - 4, size - 3, size - 1}[d.upTo(8)]
}

func (d *dice) page() uint64 {
	at := d.place()
	if d.upTo(12) > 0 {
		at -= at % size
	}
	return at
}

func (d *dice) count() int { return []int{1, 2, 3, 4, 8, 15, 16, 100, size, size + 1}[d.upTo(10)] }

// TestP1Model: a long row of calls, each held against the model, and now and then all of the memory.
func TestP1Model(t *testing.T) {
	for start := range 8 {
		d := dice(start)
		m, w := memory.New(), &model{map[uint64]int{}, map[uint64]byte{}}
		for k := range 3000 {
			turn(t, &d, m, w)
			if k%100 == 0 {
				compare(t, m, w)
			}
			if t.Failed() {
				t.Fatalf("beginning with %d, at call %d", start, k)
			}
		}
	}
}

// turn: one call of each.
func turn(t *testing.T, d *dice, m *memory.Memory, w *model) {
	t.Helper()
	addr := d.place()
	switch d.upTo(12) {
	case 0, 1, 2:
		page, pages, may := d.page(), d.upTo(4), d.upTo(9)
		check(t, m.Map(page, pages, may), w.mapped(page, pages, may))
	case 3:
		page, pages := d.page(), d.upTo(4)
		check(t, m.Unmap(page, pages), w.unmapped(page, pages))
	case 4, 5:
		page, pages, may := d.page(), d.upTo(4), d.upTo(9)
		check(t, m.Protect(page, pages, may), w.protected(page, pages, may))
	case 6:
		b := marks(uint64(d.upTo(1000)), d.count())
		check(t, m.Write(addr, b), w.write(addr, b, memory.W, api.ErrFault))
	case 7:
		b := marks(uint64(d.upTo(1000)), d.count())
		check(t, m.Put(addr, b), w.write(addr, b, 0, api.ErrPage))
	case 8:
		n := []int{1, 4, 8}[d.upTo(3)]
		v := uint64(d.upTo(1<<30)) * 0x123456789
		low := []byte{byte(v), byte(v >> 8), byte(v >> 16), byte(v >> 24), byte(v >> 32), byte(v >> 40), byte(v >> 48), byte(v >> 56)}[:n]
		check(t, m.Store(addr, n, v), w.write(addr, low, memory.W, api.ErrFault))
	default:
		look(t, d, addr, m, w)
	}
}

// look: reads at an address in each way.
func look(t *testing.T, d *dice, addr uint64, m *memory.Memory, w *model) {
	t.Helper()
	n := d.count()
	if w.free(addr, n, memory.R) == n {
		checkRead(t, m, addr, n, w.read(addr, n), api.OK)
	} else {
		checkRead(t, m, addr, n, nil, api.ErrFault)
	}
	most := 1 + d.upTo(15)
	if n := w.free(addr, most, memory.X); n > 0 {
		checkFetch(t, m, addr, most, w.read(addr, n), api.OK)
	} else {
		checkFetch(t, m, addr, most, nil, api.ErrFault)
	}
	may, is := w.may[addr-addr%size]
	checkMay(t, m, addr, may, is)
}

// compare: all pages, what may be done with them, and all bytes.
func compare(t *testing.T, m *memory.Memory, w *model) {
	t.Helper()
	got := contents(t, m)
	if len(got) != len(w.may) {
		t.Errorf("%d pages, want %d", len(got), len(w.may))
	}
	for addr, c := range got {
		may, is := w.may[addr]
		if c.may != may || !is || !bytes.Equal(c.bytes[:], w.read(addr, size)) {
			t.Errorf("the page %#x is another", addr)
		}
	}
}
