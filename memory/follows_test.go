package memory_test

import (
	"bytes"
	"testing"

	"gangway/api"
	"gangway/memory"
)

// TestP608LastWritten: of writes over each other, by all calls that write, each byte tells the last one.
func TestP608LastWritten(t *testing.T) {
	m := with(t, region{size, 4, rw})
	want := make([]byte, 4*size)
	number := uint64(88172645463325252)
	for k := range 2000 {
		number = number*6364136223846793005 + 1442695040888963407
		at := int(number>>33) % (3 * size)
		b := marks(number, 1+k%(size/3))
		switch k % 4 {
		case 0:
			check(t, m.Write(size+uint64(at), b), api.OK)
		case 1:
			check(t, m.Put(size+uint64(at), b), api.OK)
		case 2:
			b = b[:1]
			check(t, m.Store(size+uint64(at), 1, uint64(b[0])), api.OK)
		case 3:
			b = []byte{byte(k), byte(k >> 8), 3, 4}
			check(t, m.Store(size+uint64(at), 4, uint64(k&0xffff)|3<<16|4<<24), api.OK)
		}
		copy(want[at:], b)
		checkRead(t, m, size+uint64(at), len(b), b, api.OK)
	}
	checkRead(t, m, size, len(want), want, api.OK)
	for k, x := range want {
		if v, e := m.Load(size+uint64(k), 1); v != uint64(x) || e != api.OK {
			t.Fatalf("byte %d: %d, %d; want %d", k, v, e, x)
		}
	}
}

// TestP608WrittenFirst: written while it may not be read, read when it may.
func TestP608WrittenFirst(t *testing.T) {
	m := with(t, region{size, 2, memory.W})
	check(t, m.Write(2*size-2, []byte{1, 2, 3, 4}), api.OK)
	checkRead(t, m, 2*size-2, 4, nil, api.ErrFault)
	check(t, m.Protect(size, 2, memory.R|memory.X), api.OK)
	checkRead(t, m, 2*size-2, 4, []byte{1, 2, 3, 4}, api.OK)
	checkFetch(t, m, 2*size-2, 4, []byte{1, 2, 3, 4}, api.OK)
}

// TestP609Apart: calls change what they name alone, all other pages stay; those that only look change nothing.
func TestP609Apart(t *testing.T) {
	m := filled(t, region{size, 3, rw}, region{6 * size, 2, all}, region{top - size, 1, 0})
	stay := func(f func(), named ...uint64) {
		t.Helper()
		before := contents(t, m)
		f()
		after := contents(t, m)
		for _, addr := range named {
			delete(before, addr)
			delete(after, addr)
		}
		if len(before) != len(after) {
			t.Errorf("%d pages, now %d", len(before), len(after))
		}
		for addr, c := range before {
			if after[addr] != c {
				t.Errorf("the page %#x changed", addr)
			}
		}
	}
	stay(func() { m.Map(4*size, 1, 5) }, 4*size)
	stay(func() { m.Protect(2*size, 2, 3) }, 2*size, 3*size)
	stay(func() { m.Unmap(2*size, 1) }, 2*size)
	stay(func() { m.Write(6*size, make([]byte, size)) }, 6*size)
	stay(func() { m.Put(7*size, make([]byte, size)) }, 7*size)
	stay(func() { m.Store(7*size-4, 8, 1) }, 6*size, 7*size)
	stay(func() {
		m.May(size)
		m.Pages()
		m.Read(size, 100)
		m.Fetch(6*size, 15)
		m.Load(size, 8)
		m.Copy()
		memory.Same(m, m)
	})
}

// TestP609FaultChangesNothing: the last byte alone may not be, over one page's end and over several.
func TestP609FaultChangesNothing(t *testing.T) {
	m := filled(t, region{size, 3, rw}, region{4 * size, 1, memory.R}, region{top - size, 1, rw})
	unchanged(t, m, func() {
		for _, n := range []int{2, 3, size, size + 1, 2*size + 1, 3*size + 1} {
			check(t, m.Write(4*size-uint64(n-1), make([]byte, n)), api.ErrFault)
		}
		check(t, m.Write(top-9, make([]byte, 10)), api.ErrFault)
		check(t, m.Put(top-9, make([]byte, 10)), api.ErrPage)
		check(t, m.Put(4*size, make([]byte, size+1)), api.ErrPage)
		for _, n := range []int{4, 8} {
			check(t, m.Store(4*size-uint64(n-1), n, 0), api.ErrFault)
			check(t, m.Store(top-uint64(n-1), n, 0), api.ErrFault)
		}
	})
}

// TestP610Read: of a + b bytes, cut anywhere.
func TestP610Read(t *testing.T) {
	m := filled(t, region{size, 3, memory.R})
	for _, addr := range []uint64{size, size + 1, 2*size - 5} {
		whole, e := m.Read(addr, size+20)
		check(t, e, api.OK)
		for a := 0; a <= len(whole); a++ {
			first, e1 := m.Read(addr, a)
			second, e2 := m.Read(addr+uint64(a), len(whole)-a)
			if e1 != api.OK || e2 != api.OK || !bytes.Equal(append(first, second...), whole) {
				t.Fatalf("Read at %#x, cut at %d: %d, %d", addr, a, e1, e2)
			}
		}
	}
}

// TestP610Store: of 8 bytes as two of 4, and as eight of 1.
func TestP610Store(t *testing.T) {
	for _, v := range []uint64{0, 1 << 31, 1 << 32, 0xe8770685940382f1, last} {
		for back := uint64(0); back <= 16; back++ {
			a := filled(t, region{size, 2, rw})
			b, c := a.Copy(), a.Copy()
			addr := 2*size - back
			check(t, a.Store(addr, 8, v), api.OK)
			check(t, b.Store(addr, 4, v), api.OK)
			check(t, b.Store(addr+4, 4, v>>32), api.OK)
			for k := range uint64(8) {
				check(t, c.Store(addr+k, 1, v>>(8*k)), api.OK)
			}
			checkSame(t, a, b, true)
			checkSame(t, a, c, true)
			low, _ := a.Load(addr, 4)
			high, _ := a.Load(addr+4, 4)
			checkLoad(t, a, addr, 8, low|high<<32, api.OK)
			checkLoad(t, a, addr, 8, v, api.OK)
		}
	}
}

// spoil: changes a list and the room behind it.
func spoil[E any](list []E, x E) {
	list = list[:cap(list)]
	for k := range list {
		list[k] = x
	}
}

// TestP611HandedIn: bytes that were handed in are changed then.
func TestP611HandedIn(t *testing.T) {
	m := with(t, region{size, 3, rw})
	whole := bytes.Repeat([]byte{7}, size)
	few := []byte{1, 2, 3}
	check(t, m.Write(size, whole), api.OK)
	check(t, m.Put(2*size, whole), api.OK)
	check(t, m.Write(3*size, few), api.OK)
	check(t, m.Put(3*size+3, few), api.OK)
	unchanged(t, m, func() {
		spoil(whole, 9)
		spoil(few, 9)
	})
	checkRead(t, m, 2*size-1, 2, []byte{7, 7}, api.OK)
	checkRead(t, m, 3*size, 6, []byte{1, 2, 3, 1, 2, 3}, api.OK)
}

// TestP611HandedOut: bytes and pages that were handed out are changed then, and the room behind them.
func TestP611HandedOut(t *testing.T) {
	m := filled(t, region{size, 3, all})
	unchanged(t, m, func() {
		for _, n := range []int{0, 1, 5, size, size + 1, 2 * size} {
			b, _ := m.Read(size, n)
			spoil(b, 0)
			checkRead(t, m, size, n, marks(size, n), api.OK)
		}
		for _, most := range []int{1, 8, 15} {
			b, _ := m.Fetch(2*size-8, most)
			again, _ := m.Fetch(2*size-8, most)
			spoil(b, 0)
			if !bytes.Equal(again, marks(2*size-8, most)) {
				t.Errorf("two answers share: % x", again)
			}
		}
		pages, again := m.Pages(), m.Pages()
		spoil(pages, 1)
		checkPages(t, m, again...)
	})
	checkPages(t, m, size, 2*size, 3*size)
}
