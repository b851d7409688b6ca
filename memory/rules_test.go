package memory_test

import (
	"bytes"
	"math"
	"testing"

	"gangway/api"
	"gangway/memory"
)

// TestP1NotMade: each call of a nil Memory, and of one that New did not make, whatever else is wrong.
func TestP1NotMade(t *testing.T) {
	for _, m := range []*memory.Memory{nil, {}, new(memory.Memory)} {
		for _, addr := range []uint64{0, 1, size, top, last} {
			for _, n := range []int{math.MinInt, -1, 0, 1, 4, 8, 15, 16, 1 << 35, math.MaxInt} {
				check(t, m.Map(addr, n, 4), api.ErrArg)
				check(t, m.Unmap(addr, n), api.ErrArg)
				check(t, m.Protect(addr, n, 4), api.ErrArg)
				checkRead(t, m, addr, n, nil, api.ErrArg)
				checkFetch(t, m, addr, n, nil, api.ErrArg)
				checkLoad(t, m, addr, n, 0, api.ErrArg)
				check(t, m.Store(addr, n, 1), api.ErrArg)
			}
			for _, b := range [][]byte{nil, {}, {1}, make([]byte, api.MaxBytes+1)} {
				check(t, m.Write(addr, b), api.ErrArg)
				check(t, m.Put(addr, b), api.ErrArg)
			}
			checkMay(t, m, addr, 0, false)
		}
		checkPages(t, m)
		if m.Copy() != nil {
			t.Error("something of nothing")
		}
	}
}

// TestP1ArgumentsStay: neither the bytes nor the room behind them are changed, nor is that room written.
func TestP1ArgumentsStay(t *testing.T) {
	m := with(t, region{size, 2, rw})
	room := marks(0, 64)
	before := bytes.Clone(room)
	check(t, m.Write(size, room[:5]), api.OK)
	check(t, m.Put(2*size-2, room[:5]), api.OK)
	check(t, m.Write(9*size, room[:5]), api.ErrFault)
	if !bytes.Equal(room, before) {
		t.Error(room)
	}
	checkRead(t, m, size, 6, append(marks(0, 5), 0), api.OK)
	checkRead(t, m, 2*size-2, 6, append(marks(0, 5), 0), api.OK)
}

// TestP1ManyStayApart: what is done with one Memory is not to be seen in another.
func TestP1ManyStayApart(t *testing.T) {
	a, b := filled(t, region{size, 1, rw}), filled(t, region{size, 1, rw})
	unchanged(t, b, func() {
		check(t, a.Write(size, make([]byte, size)), api.OK)
		check(t, a.Map(5*size, 1, 1), api.OK)
		check(t, a.Unmap(size, 1), api.OK)
	})
}

// TestP1Examples: those of the chapter.
func TestP1Examples(t *testing.T) {
	m := memory.New()
	check(t, m.Map(4096, 1, memory.R+memory.W), api.OK)
	check(t, m.Map(4096, 1, memory.R+memory.W), api.ErrPage)
	check(t, m.Map(4097, 1, memory.R), api.ErrRange)
	check(t, m.Write(8190, []byte{1, 2}), api.OK)
	unchanged(t, m, func() { check(t, m.Write(8191, []byte{3, 4}), api.ErrFault) })
	check(t, m.Store(4096, 8, 258), api.OK)
	checkLoad(t, m, 4096, 1, 2, api.OK)
	checkLoad(t, m, 4097, 1, 1, api.OK)
	checkLoad(t, m, 4096, 2, 0, api.ErrArg)
	check(t, m.Protect(4096, 1, memory.X), api.OK)
	checkFetch(t, m, 8190, 15, []byte{1, 2}, api.OK)
	checkRead(t, m, 4096, 1, nil, api.ErrFault)
	check(t, m.Put(4096, []byte{9}), api.OK)
	checkRead(t, m, last, 2, nil, api.ErrFault)
	check(t, m.Map(memory.Top-4096, 2, memory.R), api.ErrRange)
	checkRead(t, m, 123456789, 0, nil, api.OK)
}
