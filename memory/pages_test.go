package memory_test

import (
	"math"
	"testing"

	"gangway/api"
	"gangway/memory"
)

// TestP601Constants: what may be done, and where addresses end.
func TestP601Constants(t *testing.T) {
	if memory.X != 1 || memory.W != 2 || memory.R != 4 || memory.Top != 1<<47 {
		t.Error("X, W, R or Top")
	}
}

func TestP601NewHasNoPage(t *testing.T) {
	m := memory.New()
	checkPages(t, m)
	for _, addr := range []uint64{0, 1, size, top - 1, top, last} {
		checkMay(t, m, addr, 0, false)
		checkRead(t, m, addr, 1, nil, api.ErrFault)
		checkFetch(t, m, addr, 1, nil, api.ErrFault)
		check(t, m.Write(addr, []byte{1}), api.ErrFault)
		check(t, m.Put(addr, []byte{1}), api.ErrPage)
	}
	check(t, m.Map(size, 1, rw), api.OK)
	checkPages(t, memory.New())
}

// TestP601Map: just the pages that are named, with that may, all bytes 0.
func TestP601Map(t *testing.T) {
	m := with(t, region{2 * size, 3, memory.R})
	checkPages(t, m, 2*size, 3*size, 4*size)
	checkRead(t, m, 2*size, 3*size, make([]byte, 3*size), api.OK)
	for may := range 8 {
		addr := uint64(10+2*may) * size
		check(t, m.Map(addr, 1, may), api.OK)
		checkMay(t, m, addr, may, true)
		checkMay(t, m, addr-1, 0, false)
		checkMay(t, m, addr+size, 0, false)
	}
	for addr, c := range contents(t, m) {
		if c.bytes != [size]byte{} {
			t.Errorf("%#x: not all bytes are 0", addr)
		}
	}
	checkMay(t, m, 2*size, memory.R, true)
}

// TestP601Edges: the first page and the last one below Top, and beyond.
func TestP601Edges(t *testing.T) {
	m := memory.New()
	check(t, m.Map(0, 1, rw), api.OK)
	check(t, m.Map(top-size, 1, rw), api.OK)
	check(t, m.Map(top-3*size, 2, rw), api.OK)
	checkPages(t, m, 0, top-3*size, top-2*size, top-size)
	check(t, m.Write(top-1, []byte{5}), api.OK)
	checkRead(t, m, top-1, 1, []byte{5}, api.OK)
	check(t, m.Unmap(top-size, 1), api.OK)
	check(t, m.Map(top-size, 1, rw), api.OK)
	checkRead(t, m, top-1, 1, []byte{0}, api.OK)
}

// wrongNumbers: a number of pages or a may that may not be, beside addresses of all kinds.
func wrongNumbers() []region {
	var list []region
	for _, addr := range []uint64{0, 1, size, size + 1, 2 * size, 9 * size, top - size, top, last, last - size + 1} {
		for _, may := range []int{0, 7} {
			list = append(list, region{addr, 0, may}, region{addr, -1, may}, region{addr, math.MinInt, may}, region{addr, math.MinInt + 1, may})
		}
		for _, may := range []int{-1, 8, 9, 15, -8, math.MinInt, math.MaxInt, 1 << 32, 1<<32 + 4} {
			list = append(list, region{addr, 1, may}, region{addr, 0, may}, region{addr, 1 << 40, may}, region{addr, math.MaxInt, may})
		}
	}
	return list
}

// wrongPlaces: an address that is no page's, or pages that do not end at or ahead of Top. The pages 1 and 2 may be there.
func wrongPlaces() []region {
	list := []region{
		{1, 1, 4}, {size - 1, 1, 4}, {size + 1, 1, 4}, {2*size - 1, 1, 4}, {size + 1, 2000, 4}, {size / 2, 1, 4}, {size + 8, 1 << 40, 4},
		{top - size, 2, 4}, {top - size + 1, 1, 4}, {top - 1, 1, 4}, {top, 1, 4}, {top, 2, 4}, {top + 1, 1, 4}, {top + size, 1, 4}, {top - 2*size, 3, 4}, {2 * top, 1, 4}, {1 << 63, 1, 4},
		{last - size + 1, 1, 4}, {last - size + 1, 2, 4}, {last - size + 1, 3, 4}, {last, 1, 4}, {last - 2*size + 1, 4, 4},
		{0, 1<<35 + 1, 4}, {size, 1 << 35, 4}, {2 * size, 1<<35 - 1, 4},
	}
	for _, pages := range []int{1 << 51, 1<<51 + 1, 1<<52 - 1, 1 << 52, 1<<52 + 1, 1<<52 + 2, 1 << 62, math.MaxInt - 1, math.MaxInt} {
		list = append(list, region{0, pages, 4}, region{size, pages, 4}, region{top - size, pages, 4}, region{last - size + 1, pages, 4})
	}
	return list
}

func TestP601MapRefused(t *testing.T) {
	m := filled(t, region{size, 2, rw})
	unchanged(t, m, func() {
		for _, r := range wrongNumbers() {
			check(t, m.Map(r.addr, r.pages, r.may), api.ErrArg)
		}
		for _, r := range wrongPlaces() {
			check(t, m.Map(r.addr, r.pages, r.may), api.ErrRange)
		}
		// Some of the pages are there: the first, the last, one between; with too many pages, too.
		for _, r := range []region{{size, 1, 4}, {size, 2, 6}, {2 * size, 1, 4}, {2 * size, 2, 4}, {0, 2, 4}, {0, 4, 4}, {0, 1, 4}, {size, 1024, 4}, {2 * size, 2000, 4}, {0, 1 << 35, 4}, {size, 1<<35 - 1, 4}, {2 * size, 1<<35 - 2, 4}} {
			want := api.ErrPage
			if r == (region{0, 1, 4}) {
				want = api.OK
			}
			check(t, m.Map(r.addr, r.pages, r.may), want)
		}
		check(t, m.Unmap(0, 1), api.OK)
		for _, r := range []region{{3 * size, 1023, 4}, {3 * size, 1024, 4}, {3 * size, 1<<35 - 3, 4}, {top - 1023*size, 1023, 4}} {
			check(t, m.Map(r.addr, r.pages, r.may), api.ErrSize)
		}
	})
}

// TestP601MaxPages: as many as may be, and one more, at once and one by one; what is taken away makes room.
func TestP601MaxPages(t *testing.T) {
	m := memory.New()
	check(t, m.Map(size, api.MaxPages+1, 7), api.ErrSize)
	checkPages(t, m)
	check(t, m.Map(size, api.MaxPages, 7), api.OK)
	if n := len(m.Pages()); n != api.MaxPages {
		t.Errorf("%d pages", n)
	}
	check(t, m.Map(0, 1, 7), api.ErrSize)
	checkMay(t, m, 0, 0, false)
	check(t, m.Map(size, 1, 7), api.ErrPage)
	check(t, m.Unmap(5*size, 2), api.OK)
	check(t, m.Map(top-3*size, 3, 7), api.ErrSize)
	check(t, m.Map(top-size, 1, 7), api.OK)
	check(t, m.Map(0, 1, 7), api.OK)
	check(t, m.Map(5*size, 1, 7), api.ErrSize)

	m = memory.New()
	for k := range api.MaxPages {
		check(t, m.Map(uint64(3*k)*size, 1, k%8), api.OK)
	}
	check(t, m.Map(size, 1, 0), api.ErrSize)
	check(t, m.Protect(0, 1, 7), api.OK)
	if n := len(m.Pages()); n != api.MaxPages {
		t.Errorf("%d pages", n)
	}
}

// TestP601Unmap: just the pages that are named are there no longer; mapped again they begin with 0.
func TestP601Unmap(t *testing.T) {
	m := filled(t, region{size, 5, all}, region{9 * size, 1, 0})
	check(t, m.Unmap(2*size, 2), api.OK)
	checkPages(t, m, size, 4*size, 5*size, 9*size)
	checkMay(t, m, 3*size, 0, false)
	checkRead(t, m, 3*size, 1, nil, api.ErrFault)
	check(t, m.Write(2*size, []byte{1}), api.ErrFault)
	check(t, m.Put(2*size, []byte{1}), api.ErrPage)
	checkFetch(t, m, 2*size, 1, nil, api.ErrFault)
	checkRead(t, m, size, size, marks(size, size), api.OK)
	checkRead(t, m, 4*size, size, marks(4*size, size), api.OK)
	check(t, m.Unmap(9*size, 1), api.OK)
	check(t, m.Unmap(9*size, 1), api.ErrPage)
	check(t, m.Map(2*size, 2, memory.R), api.OK)
	checkRead(t, m, 2*size, 2*size, make([]byte, 2*size), api.OK)
}

// TestP601Protect: just the pages that are named get that may; their bytes stay.
func TestP601Protect(t *testing.T) {
	m := filled(t, region{size, 4, all})
	for may := range 8 {
		check(t, m.Protect(2*size, 2, may), api.OK)
		checkMay(t, m, size, all, true)
		checkMay(t, m, 2*size, may, true)
		checkMay(t, m, 3*size, may, true)
		checkMay(t, m, 4*size, all, true)
	}
	checkPages(t, m, size, 2*size, 3*size, 4*size)
	checkRead(t, m, size, 4*size, marks(size, 4*size), api.OK)
}

func TestP601UnmapAndProtectRefused(t *testing.T) {
	m := filled(t, region{size, 2, rw}, region{4 * size, 1, memory.X}, region{top - size, 1, 0})
	unchanged(t, m, func() {
		for _, r := range wrongNumbers() {
			check(t, m.Protect(r.addr, r.pages, r.may), api.ErrArg)
			if r.pages < 1 {
				check(t, m.Unmap(r.addr, r.pages), api.ErrArg)
			}
		}
		for _, r := range wrongPlaces() {
			check(t, m.Protect(r.addr, r.pages, r.may), api.ErrRange)
			check(t, m.Unmap(r.addr, r.pages), api.ErrRange)
		}
		// One of them is not there: the last, the first, one between, all.
		for _, r := range []region{{size, 3, 1}, {0, 2, 1}, {2 * size, 3, 1}, {size, 4, 1}, {0, 1, 1}, {3 * size, 1, 1}, {7 * size, 2, 1}, {top - 2*size, 2, 1}, {0, 1 << 35, 1}, {size, 1024, 1}, {size, 1025, 1}, {2 * size, 1<<35 - 2, 1}} {
			check(t, m.Protect(r.addr, r.pages, r.may), api.ErrPage)
			check(t, m.Unmap(r.addr, r.pages), api.ErrPage)
		}
	})
}

// TestP602May: at each byte of a page, and right outside.
func TestP602May(t *testing.T) {
	m := with(t, region{3 * size, 1, memory.X}, region{4 * size, 1, 0}, region{top - size, 1, memory.R})
	for k := range uint64(size) {
		checkMay(t, m, 3*size+k, memory.X, true)
		checkMay(t, m, 4*size+k, 0, true)
		checkMay(t, m, top-size+k, memory.R, true)
	}
	for _, addr := range []uint64{0, 3*size - 1, 5 * size, top - size - 1, top, top + 3*size, top + 4*size, last, last - size, last - size + 1} {
		checkMay(t, m, addr, 0, false)
	}
}

// TestP602Pages: rising, in whichever order they came.
func TestP602Pages(t *testing.T) {
	m := memory.New()
	for k := range 100 {
		check(t, m.Map(uint64(k*37%100)*size, 1, k%8), api.OK)
	}
	check(t, m.Map(top-size, 1, 0), api.OK)
	check(t, m.Unmap(50*size, 1), api.OK)
	var want []uint64
	for k := range 100 {
		if k != 50 {
			want = append(want, uint64(k)*size)
		}
	}
	checkPages(t, m, append(want, top-size)...)
}
