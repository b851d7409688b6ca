package memory_test

import (
	"bytes"
	"math"
	"testing"

	"gangway/api"
	"gangway/memory"
)

// outside: addresses that are none.
func outside() []uint64 {
	return []uint64{top, top + 1, top + size, 2 * top, 1 << 63, last - 2*size, last - size, last - 1, last}
}

// TestP603Read: within a page, over its end, over three pages.
func TestP603Read(t *testing.T) {
	m := filled(t, region{size, 3, memory.R}, region{5 * size, 1, rw}, region{top - size, 1, all})
	for _, c := range []struct {
		addr uint64
		n    int
	}{{size, 1}, {size, size}, {size + 5, 7}, {2*size - 1, 1}, {2*size - 1, 2}, {2*size - 3, 8}, {size, size + 1}, {size + 1, size}, {2*size - 1, size + 2}, {size, 3 * size}, {5*size + 9, size - 9}, {top - 1, 1}, {top - size, size}} {
		checkRead(t, m, c.addr, c.n, marks(c.addr, c.n), api.OK)
	}
}

// TestP603ReadRefused: a number that may not be goes first, whatever the address; then a byte on no page, or on one that may not be read.
func TestP603ReadRefused(t *testing.T) {
	m := filled(t, region{0, 1, memory.R}, region{2 * size, 1, memory.R}, region{3 * size, 1, memory.X | memory.W}, region{4 * size, 1, memory.R}, region{6 * size, 1, 0}, region{top - size, 1, memory.R})
	for _, addr := range append(outside(), 0, 2*size, 3*size, top-1) {
		for _, n := range []int{-1, -2, math.MinInt, math.MinInt + 1} {
			checkRead(t, m, addr, n, nil, api.ErrArg)
		}
		for _, n := range []int{api.MaxBytes + 1, api.MaxBytes + 2, 1 << 32, 1<<32 + 1, math.MaxInt - 1, math.MaxInt} {
			checkRead(t, m, addr, n, nil, api.ErrSize)
		}
		checkRead(t, m, addr, api.MaxBytes, nil, api.ErrFault)
		checkRead(t, m, addr, 0, nil, api.OK)
	}
	for _, c := range []struct {
		addr uint64
		n    int
	}{
		{size, 1}, {size - 1, 2}, {2*size - 1, 2}, {3*size - 1, 2}, {3 * size, 1}, {4*size - 1, 1}, {4*size - 1, 2}, {2 * size, 3 * size}, {2*size + 7, 3*size - 7}, {5*size - 1, 2}, {6 * size, 1},
		{top - 1, 2}, {top - size, size + 1}, {last, 1}, {last, 2}, {last - 1, 3}, {last - size + 1, size + 1}, {last - 7, 16},
	} {
		checkRead(t, m, c.addr, c.n, nil, api.ErrFault)
	}
	for _, addr := range outside() {
		checkRead(t, m, addr, 1, nil, api.ErrFault)
		checkRead(t, m, addr, size, nil, api.ErrFault)
	}
}

// TestP603ReadWholly: MaxBytes bytes, from the middle of a page on; one byte too few on pages.
func TestP603ReadWholly(t *testing.T) {
	pages := api.MaxBytes / size
	m := filled(t, region{size, pages + 1, memory.R})
	checkRead(t, m, size, api.MaxBytes, marks(size, api.MaxBytes), api.OK)
	checkRead(t, m, size+100, api.MaxBytes, marks(size+100, api.MaxBytes), api.OK)
	checkRead(t, m, 2*size, api.MaxBytes, marks(2*size, api.MaxBytes), api.OK)
	checkRead(t, m, 2*size+1, api.MaxBytes, nil, api.ErrFault)
	checkRead(t, m, 2*size, api.MaxBytes+1, nil, api.ErrSize)
}

// TestP603MayDecides: of each of the eight.
func TestP603MayDecides(t *testing.T) {
	for may := range 8 {
		m := filled(t, region{size, 1, may})
		read, write, fetch := api.ErrFault, api.ErrFault, api.ErrFault
		var bytesRead, bytesFetched []byte
		if may&memory.R != 0 {
			read, bytesRead = api.OK, marks(size, 4)
		}
		if may&memory.X != 0 {
			fetch, bytesFetched = api.OK, marks(size, 4)
		}
		if may&memory.W != 0 {
			write = api.OK
		}
		checkRead(t, m, size, 4, bytesRead, read)
		checkFetch(t, m, size, 4, bytesFetched, fetch)
		check(t, m.Write(2*size-4, []byte{1, 2, 3, 4}), write)
		check(t, m.Store(2*size-4, 4, 5), write)
		if _, e := m.Load(size, 8); e != read {
			t.Errorf("Load with may %d: %d", may, e)
		}
		check(t, m.Put(size, []byte{1}), api.OK)
	}
}

// checkWritten: behind a Write or a Put of b at addr all else is as filled left it.
func checkWritten(t *testing.T, m *memory.Memory, addr uint64, b []byte) {
	t.Helper()
	for page, c := range contents(t, m) {
		want := marks(page, size)
		for k, x := range b {
			if at := addr + uint64(k); at-page < size {
				want[at-page] = x
			}
		}
		if !bytes.Equal(c.bytes[:], want) {
			t.Errorf("%d bytes at %#x: the page %#x is another", len(b), addr, page)
		}
	}
}

// TestP604Write: within a page, over its end, over several; Put the same, whatever may be done.
func TestP604Write(t *testing.T) {
	for _, c := range []struct {
		addr uint64
		n    int
	}{{size, 1}, {size, size}, {size + 5, 7}, {2*size - 1, 1}, {2*size - 1, 2}, {2*size - 3, 8}, {size, size + 1}, {2*size - 1, size + 2}, {size, 3 * size}, {4*size - 1, 1}, {top - 1, 1}, {top - size, size}} {
		b := bytes.Repeat([]byte{0, 255, 128}, c.n)[:c.n]
		m := filled(t, region{size, 3, memory.W}, region{5 * size, 1, all}, region{top - size, 1, rw})
		check(t, m.Write(c.addr, b), api.OK)
		checkWritten(t, m, c.addr, b)
		for may := range 8 {
			m = filled(t, region{size, 1, may}, region{2 * size, 2, 7 - may}, region{top - size, 1, may})
			check(t, m.Put(c.addr, b), api.OK)
			checkWritten(t, m, c.addr, b)
		}
	}
}

// TestP604WriteRefused: too many bytes go first, whatever the address; then a place that may not be written. Nothing is changed.
func TestP604WriteRefused(t *testing.T) {
	m := filled(t, region{0, 1, rw}, region{2 * size, 1, rw}, region{3 * size, 1, memory.X | memory.R}, region{4 * size, 1, memory.W}, region{6 * size, 1, 0}, region{top - size, 1, rw})
	unchanged(t, m, func() {
		for _, addr := range append(outside(), 0, 2*size, 3*size, top-1) {
			for _, n := range []int{api.MaxBytes + 1, api.MaxBytes + 2, 2 * api.MaxBytes} {
				check(t, m.Write(addr, make([]byte, n)), api.ErrSize)
				check(t, m.Put(addr, make([]byte, n)), api.ErrSize)
			}
			check(t, m.Write(addr, make([]byte, api.MaxBytes)), api.ErrFault)
			check(t, m.Put(addr, make([]byte, api.MaxBytes)), api.ErrPage)
			for _, none := range [][]byte{nil, {}} {
				check(t, m.Write(addr, none), api.OK)
				check(t, m.Put(addr, none), api.OK)
			}
		}
		for _, c := range []struct {
			addr uint64
			n    int
		}{
			{size, 1}, {size - 1, 2}, {2*size - 1, 2}, {5*size - 1, 2}, {2 * size, 3*size + 1},
			{top - 1, 2}, {top - size, size + 1}, {top, 1}, {last, 1}, {last, 2}, {last - 1, 3}, {last - size + 1, size + 1}, {last - 7, 16},
		} {
			check(t, m.Write(c.addr, make([]byte, c.n)), api.ErrFault)
			check(t, m.Put(c.addr, make([]byte, c.n)), api.ErrPage)
		}
		// These are on pages, but may not be written.
		for _, c := range []struct {
			addr uint64
			n    int
		}{{3*size - 1, 2}, {3 * size, 1}, {4*size - 1, 1}, {4*size - 1, 2}, {2 * size, 3 * size}, {2*size + 7, size}, {6 * size, size}} {
			check(t, m.Write(c.addr, make([]byte, c.n)), api.ErrFault)
		}
	})
}

// TestP604WriteWholly: MaxBytes bytes, from the middle of a page on.
func TestP604WriteWholly(t *testing.T) {
	pages := api.MaxBytes / size
	b := marks(77777, api.MaxBytes)
	m := with(t, region{size, pages + 1, rw})
	check(t, m.Write(size+100, b), api.OK)
	checkRead(t, m, size+100, len(b), b, api.OK)
	check(t, m.Protect(size, pages+1, memory.R), api.OK)
	check(t, m.Put(2*size, b), api.OK)
	checkRead(t, m, 2*size, len(b), b, api.OK)
	unchanged(t, m, func() {
		check(t, m.Put(2*size+1, make([]byte, api.MaxBytes)), api.ErrPage)
		check(t, m.Put(2*size, make([]byte, api.MaxBytes+1)), api.ErrSize)
	})
}

// TestP605Fetch: as many as are asked, from each place around the end of a page.
func TestP605Fetch(t *testing.T) {
	m := filled(t, region{size, 2, memory.X}, region{3 * size, 1, rw}, region{4 * size, 1, all}, region{top - size, 1, memory.X | memory.R})
	for most := 1; most <= 15; most++ {
		for back := uint64(1); back <= 20; back++ {
			checkFetch(t, m, 2*size-back, most, marks(2*size-back, most), api.OK)
			for _, end := range []uint64{3 * size, 5 * size, top} {
				checkFetch(t, m, end-back, most, marks(end-back, min(most, int(back))), api.OK)
			}
		}
		checkFetch(t, m, size, most, marks(size, most), api.OK)
		checkFetch(t, m, 4*size, most, marks(4*size, most), api.OK)
	}
}

func TestP605FetchRefused(t *testing.T) {
	m := filled(t, region{0, 1, all}, region{2 * size, 1, memory.X}, region{3 * size, 1, rw}, region{4 * size, 1, 0})
	for _, addr := range append(outside(), 0, size, 2*size, 3*size) {
		for _, most := range []int{0, -1, 16, 17, math.MinInt, math.MaxInt, 1 << 32, 1<<32 + 1} {
			checkFetch(t, m, addr, most, nil, api.ErrArg)
		}
	}
	for _, addr := range append(outside(), size, 2*size-1, 3*size, 4*size-1, 4*size, 5*size-1, 5*size, top-1) {
		for _, most := range []int{1, 2, 15} {
			checkFetch(t, m, addr, most, nil, api.ErrFault)
		}
	}
}

// TestP606Load: the low byte first, within a page and over its end.
func TestP606Load(t *testing.T) {
	m := with(t, region{size, 2, rw}, region{top - size, 1, rw})
	for _, addr := range []uint64{size, size + 3, 2*size - 1, 2*size - 3, 2*size - 4, 2*size - 7, 2*size - 8, 3*size - 8, top - 8} {
		check(t, m.Write(addr, []byte{0xf1, 0x82, 0x03, 0x94, 0x85, 0x06, 0x77, 0xe8}), api.OK)
		checkLoad(t, m, addr, 1, 0xf1, api.OK)
		checkLoad(t, m, addr, 4, 0x940382f1, api.OK)
		checkLoad(t, m, addr, 8, 0xe8770685940382f1, api.OK)
	}
}

// TestP606Store: the low bytes alone; those beside stay.
func TestP606Store(t *testing.T) {
	for _, v := range []uint64{0, 1, 0xe8770685940382f1, last, 1 << 63, 1 << 31, 258} {
		for _, n := range []int{1, 4, 8} {
			for _, addr := range []uint64{size, size + 3, 2*size - 1, 2*size - 3, 2*size - 4, 2*size - 8, 3*size - uint64(n), top - uint64(n)} {
				m := filled(t, region{size, 2, memory.W}, region{top - size, 1, rw})
				check(t, m.Store(addr, n, v), api.OK)
				var b []byte
				for k := range n {
					b = append(b, byte(v>>(8*k)))
				}
				checkWritten(t, m, addr, b)
			}
		}
	}
}

// TestP606Refused: the size goes first, whatever the address; then what Read and Write say.
func TestP606Refused(t *testing.T) {
	m := filled(t, region{0, 1, rw}, region{2 * size, 1, rw}, region{3 * size, 1, memory.W}, region{5 * size, 1, memory.R}, region{top - size, 1, rw})
	unchanged(t, m, func() {
		for _, addr := range append(outside(), 0, size, 2*size, 3*size, 5*size) {
			for _, n := range []int{0, -1, -4, -8, 2, 3, 5, 6, 7, 9, 10, 16, 32, 64, math.MinInt, math.MaxInt, 1<<32 + 4, api.MaxBytes, api.MaxBytes + 1} {
				checkLoad(t, m, addr, n, 0, api.ErrArg)
				check(t, m.Store(addr, n, 1), api.ErrArg)
			}
		}
		for _, n := range []int{1, 4, 8} {
			for _, addr := range append(outside(), size, size+uint64(n), 6*size, top-size-8) {
				checkLoad(t, m, addr, n, 0, api.ErrFault)
				check(t, m.Store(addr, n, 1), api.ErrFault)
			}
			checkLoad(t, m, 3*size, n, 0, api.ErrFault)
			check(t, m.Store(5*size, n, 1), api.ErrFault)
			// The last byte alone may not be.
			back := uint64(n) - 1
			for _, end := range []uint64{size, 6 * size, top} {
				checkLoad(t, m, end-back, n, 0, api.ErrFault)
				check(t, m.Store(end-back, n, 1), api.ErrFault)
			}
			checkLoad(t, m, 3*size-back, n, 0, api.ErrFault)
			check(t, m.Store(4*size-back, n, 1), api.ErrFault)
		}
	})
}
