package memory_test

import (
	"bytes"
	"maps"
	"slices"
	"testing"

	"gangway/api"
	"gangway/memory"
)

// Short names: a page's size, all that may be done, where addresses end, and the last of 2^64 addresses.
const (
	size = api.PageSize
	rw   = memory.R | memory.W
	all  = memory.R | memory.W | memory.X
	top  = uint64(memory.Top)
	last = uint64(1<<64 - 1)
)

// region: pages in a row, with one may.
type region struct {
	addr       uint64
	pages, may int
}

// with: a Memory that has just these.
func with(t *testing.T, list ...region) *memory.Memory {
	t.Helper()
	m := memory.New()
	for _, r := range list {
		check(t, m.Map(r.addr, r.pages, r.may), api.OK)
	}
	return m
}

// filled: the same, each byte of a page with a value that tells its address and its page.
func filled(t *testing.T, list ...region) *memory.Memory {
	t.Helper()
	m := with(t, list...)
	for _, addr := range m.Pages() {
		b := make([]byte, size)
		for k := range b {
			b[k] = mark(addr + uint64(k))
		}
		check(t, m.Put(addr, b), api.OK)
	}
	return m
}

// mark: what filled puts at an address: never 0, and not the same a page or 256 bytes further.
func mark(addr uint64) byte { return byte(1 + (addr+7*(addr>>8)+31*(addr/size))%255) }

func check(t *testing.T, got, want api.Errno) {
	t.Helper()
	if got != want {
		t.Errorf("answered %d, want %d", got, want)
	}
}

// checkRead: these bytes and OK; or no bytes and the error.
func checkRead(t *testing.T, m *memory.Memory, addr uint64, n int, want []byte, e api.Errno) {
	t.Helper()
	if got, gotE := m.Read(addr, n); !bytes.Equal(got, want) || gotE != e {
		t.Errorf("Read(%#x, %d): %d bytes, % x, %d; want % x, %d", addr, n, len(got), head(got), gotE, head(want), e)
	}
}

func checkFetch(t *testing.T, m *memory.Memory, addr uint64, most int, want []byte, e api.Errno) {
	t.Helper()
	if got, gotE := m.Fetch(addr, most); !bytes.Equal(got, want) || gotE != e {
		t.Errorf("Fetch(%#x, %d): % x, %d; want % x, %d", addr, most, got, gotE, want, e)
	}
}

func checkLoad(t *testing.T, m *memory.Memory, addr uint64, n int, want uint64, e api.Errno) {
	t.Helper()
	if got, gotE := m.Load(addr, n); got != want || gotE != e {
		t.Errorf("Load(%#x, %d): %#x, %d; want %#x, %d", addr, n, got, gotE, want, e)
	}
}

func checkMay(t *testing.T, m *memory.Memory, addr uint64, may int, is bool) {
	t.Helper()
	if got, gotIs := m.May(addr); got != may || gotIs != is {
		t.Errorf("May(%#x): %d, %t; want %d, %t", addr, got, gotIs, may, is)
	}
}

func checkPages(t *testing.T, m *memory.Memory, want ...uint64) {
	t.Helper()
	if got := m.Pages(); !slices.Equal(got, want) {
		t.Errorf("Pages: %#x; want %#x", got, want)
	}
}

func head(b []byte) []byte { return b[:min(len(b), 32)] }

// content: of a page.
type content struct {
	may   int
	bytes [size]byte
}

// contents: all that a Memory has, by addresses. It looks at each page for itself, whatever may be done with it, and leaves it as it was.
func contents(t *testing.T, m *memory.Memory) map[uint64]content {
	t.Helper()
	list := map[uint64]content{}
	for _, addr := range m.Pages() {
		var c content
		c.may, _ = m.May(addr)
		check(t, m.Protect(addr, 1, memory.R), api.OK)
		b, e := m.Read(addr, size)
		check(t, e, api.OK)
		copy(c.bytes[:], b)
		check(t, m.Protect(addr, 1, c.may), api.OK)
		list[addr] = c
	}
	return list
}

// unchanged: runs what must change nothing.
func unchanged(t *testing.T, m *memory.Memory, f func()) {
	t.Helper()
	before := contents(t, m)
	f()
	if !maps.Equal(before, contents(t, m)) {
		t.Error("something changed")
	}
}

// marks: what filled put into n bytes from addr on.
func marks(addr uint64, n int) []byte {
	var b []byte
	for k := range n {
		b = append(b, mark(addr+uint64(k)))
	}
	return b
}
