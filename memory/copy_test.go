package memory_test

import (
	"maps"
	"testing"

	"gangway/api"
	"gangway/memory"
)

func checkSame(t *testing.T, a, b *memory.Memory, want bool) {
	t.Helper()
	if memory.Same(a, b) != want || memory.Same(b, a) != want {
		t.Errorf("Same: %t, %t; want %t", memory.Same(a, b), memory.Same(b, a), want)
	}
}

// TestP607Copy: the same pages, with the same bytes and the same may.
func TestP607Copy(t *testing.T) {
	m := memory.New()
	for may := range 8 {
		check(t, m.Map(uint64(may)*3*size, 2, may), api.OK)
		check(t, m.Put(uint64(may)*3*size+size-1, []byte{byte(may), byte(may + 1)}), api.OK)
	}
	check(t, m.Map(top-size, 1, rw), api.OK)
	c := m.Copy()
	checkSame(t, m, c, true)
	if !maps.Equal(contents(t, m), contents(t, c)) {
		t.Error("the copy is another")
	}
	checkSame(t, memory.New().Copy(), memory.New(), true)
	checkSame(t, m.Copy().Copy(), m, true)
}

// changes: each of them changes a Memory that has the pages 1 and 2, for reading and writing.
func changes() []func(m *memory.Memory) api.Errno {
	return []func(m *memory.Memory) api.Errno{
		func(m *memory.Memory) api.Errno { return m.Map(3*size, 1, 0) },
		func(m *memory.Memory) api.Errno { return m.Unmap(size, 1) },
		func(m *memory.Memory) api.Errno { return m.Unmap(size, 2) },
		func(m *memory.Memory) api.Errno { return m.Protect(2*size, 1, memory.R) },
		func(m *memory.Memory) api.Errno { return m.Write(size, []byte{0}) },
		func(m *memory.Memory) api.Errno { return m.Write(3*size-1, []byte{0}) },
		func(m *memory.Memory) api.Errno { return m.Store(2*size-4, 8, 0) },
		func(m *memory.Memory) api.Errno { return m.Put(size+77, []byte{0}) },
	}
}

// TestP607OwnWay: whichever of the two is changed, the other stays.
func TestP607OwnWay(t *testing.T) {
	for _, change := range changes() {
		m := filled(t, region{size, 2, rw})
		c := m.Copy()
		unchanged(t, c, func() { check(t, change(m), api.OK) })
		checkSame(t, m, c, false)

		m = filled(t, region{size, 2, rw})
		c = m.Copy()
		unchanged(t, m, func() { check(t, change(c), api.OK) })
		checkSame(t, m, c, false)

		// Both changed in the same way are the same again, and still apart.
		check(t, change(m), api.OK)
		checkSame(t, m, c, true)
		check(t, m.Map(9*size, 1, 0), api.OK)
		checkSame(t, m, c, false)
	}
}

// TestP607Same: pages of other addresses, of other bytes, of another may; of none but those.
func TestP607Same(t *testing.T) {
	m := filled(t, region{size, 2, rw})
	checkSame(t, m, m, true)
	checkSame(t, m, filled(t, region{2 * size, 1, rw}, region{size, 1, rw}), true)
	checkSame(t, m, with(t, region{size, 2, rw}), false)
	checkSame(t, m, filled(t, region{size, 1, rw}), false)
	checkSame(t, m, filled(t, region{size, 3, rw}), false)
	checkSame(t, m, filled(t, region{size, 2, memory.R}), false)
	checkSame(t, m, memory.New(), false)
	checkSame(t, memory.New(), memory.New(), true)
	// As many pages, all bytes 0, but elsewhere.
	checkSame(t, with(t, region{size, 2, rw}), with(t, region{2 * size, 2, rw}), false)
	checkSame(t, with(t, region{size, 2, rw}), with(t, region{size, 1, rw}, region{top - size, 1, rw}), false)
	for _, a := range []int{0, 1, 2, 4, 7} {
		for b := range 8 {
			checkSame(t, with(t, region{size, 1, a}), with(t, region{size, 1, b}), a == b)
		}
	}
	for k := range uint64(size) {
		a, b := with(t, region{size, 1, 0}), with(t, region{size, 1, 0})
		check(t, a.Put(size+k, []byte{1}), api.OK)
		checkSame(t, a, b, false)
		check(t, b.Put(size+k, []byte{1}), api.OK)
		checkSame(t, a, b, true)
	}
	// What was there and is no longer leaves no trace.
	a := filled(t, region{size, 2, rw}, region{7 * size, 1, rw})
	check(t, a.Unmap(7*size, 1), api.OK)
	checkSame(t, m, a, true)
}

// TestP607NotMade: nil, and one that New did not make.
func TestP607NotMade(t *testing.T) {
	list := []*memory.Memory{nil, {}, new(memory.Memory)}
	for _, a := range list {
		if a.Copy() != nil {
			t.Error("a copy of nothing")
		}
		for _, b := range list {
			checkSame(t, a, b, true)
		}
		checkSame(t, a, memory.New(), false)
		checkSame(t, a, with(t, region{size, 1, 0}), false)
	}
}
