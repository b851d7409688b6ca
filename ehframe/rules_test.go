package ehframe_test

import (
	"bytes"
	"math"
	"slices"
	"testing"

	"gangway/api"
	"gangway/cfa"
	"gangway/ehframe"
)

func wildNumbers() []int {
	return []int{math.MinInt, math.MinInt + 1, -far - 1, -far, -1 << 32, -256, -16, -9, -8, -1, 0, 1, 2, 3, 4, 8, 9, 10, 11, 12, 16, 27, 48, 59, 255, 256, api.MaxBytes, api.MaxBytes + 1, 1 << 31, 1 << 32, start, start + 1, far, far + 1, math.MaxInt - 8, math.MaxInt}
}

// TestP1NothingPanics: numbers, bytes and tables of all sorts; with an error nothing else is answered.
func TestP1NothingPanics(t *testing.T) {
	random := seeded(10)
	wild := func() int { return pick(random, wildNumbers()) }
	wildOps := func() []cfa.Op {
		var l []cfa.Op
		for range random.IntN(4) {
			l = append(l, cfa.Op{Kind: wild(), R: wild(), N: wild()})
		}
		return l
	}
	for range 30000 {
		b := make([]byte, random.IntN(40))
		for k := range b {
			b[k] = byte(random.Uint32())
		}
		enc, v, at, addr, data := wild(), wild(), wild(), wild(), wild()
		want, e := modelPut(enc, v, at, data)
		checkPut(t, enc, v, at, data, want, e)
		wantV, wantEnd, e := modelGet(b, at, enc, addr, data)
		checkGet(t, b, at, enc, addr, data, wantV, wantEnd, e)

		var c []ehframe.Cie
		var f []ehframe.Fde
		for range random.IntN(3) {
			c = append(c, ehframe.Cie{Enc: pick(random, []int{wild(), 27}), Initial: pick(random, [][]cfa.Op{wildOps(), cfa.Usual()})})
		}
		for range random.IntN(3) {
			f = append(f, fde(pick(random, []int{wild(), 0}), wild(), wild(), wildOps()...))
		}
		checkCheck(t, c, f, modelCheck(c, f))
		written, places, e := modelWrite(c, f, addr, true)
		checkWrite(t, c, f, addr, true, written, places, e)
		c2, f2, e := ehframe.Read(b, addr)
		if e != api.OK && (len(c2) > 0 || len(f2) > 0) || e == api.OK && (addr < 0 || addr > start) {
			t.Error(b, addr, c2, f2, e)
		}
		if k, is := ehframe.Find(f, v); k < 0 || k > 0 && !is || is && f[k].Begin > v {
			t.Error(f, v, k, is)
		}
	}
}

// TestP1MuchEnds: lists far beyond the limits, and as much work as may be asked for within them.
func TestP1MuchEnds(t *testing.T) {
	const many = 1 << 21
	checkCheck(t, make([]ehframe.Cie, many), nil, api.ErrSize)
	checkCheck(t, nil, make([]ehframe.Fde, many), api.ErrSize)
	checkCheck(t, cies(usual(27)), fdes(fde(0, 0, 0, make([]cfa.Op, many)...)), api.ErrSize)
	checkUnwritten(t, make([]ehframe.Cie, many), make([]ehframe.Fde, many), 0, api.ErrSize)
	checkRead(t, make([]byte, 1<<26), 0, nil, nil, api.ErrSize)
	checkFind(t, make([]ehframe.Fde, many), 0, 0, false)
	checkGet(t, make([]byte, 1<<26), 1<<26-8, ehframe.Abs, 0, 0, 0, 1<<26, api.OK)
	checkNoTable(t, bytes.Repeat([]byte{0, 0, 0, 0}, api.MaxBytes/4), 0)
	checkNoTable(t, bytes.Repeat([]byte{255}, api.MaxBytes), 0)
	checkNoTable(t, bytes.Repeat([]byte{4, 0, 0, 0}, api.MaxBytes/4), 0)

	initial := usualWith(slices.Repeat(ops(defCfa(16, 1<<31-1)), mostOps-2)...)
	advances := slices.Repeat(ops(advance(1)), mostOps)
	c := slices.Repeat(cies(ehframe.Cie{Enc: ehframe.U2, Initial: initial}), 400)
	f := slices.Repeat(fdes(fde(399, 0, mostOps, advances...)), 400)
	checkUnwritten(t, c, nil, 0, api.ErrSize)
	f[399].Size = 65536
	checkWrite(t, c, f, 0, true, nil, nil, api.ErrRange)
}

// TestP1NilAndEmpty: they mean the same.
func TestP1NilAndEmpty(t *testing.T) {
	for _, b := range [][]byte{nil, {}} {
		checkGet(t, b, 0, ehframe.Uleb, 0, 0, 0, 0, api.ErrEnd)
		checkRead(t, b, 0, nil, nil, api.OK)
	}
	for _, l := range [][]cfa.Op{nil, {}} {
		checkCheck(t, cies(ehframe.Cie{Initial: l}), nil, api.ErrCfa)
		want := join(digits("14 00 00 00", usualCie), digits("14 00 00 00, 1c 00 00 00, 00 00 00 00, 00 00 00 00, 00, 00 00 00 00 00 00 00"))
		checkWrite(t, cies(usual(27)), fdes(fde(0, 32, 0, l...)), 0, false, want, []int{24}, api.OK)
	}
	for _, c := range [][]ehframe.Cie{nil, {}} {
		for _, f := range [][]ehframe.Fde{nil, {}} {
			checkCheck(t, c, f, api.OK)
			checkWrite(t, c, f, 0, false, nil, nil, api.OK)
			checkFind(t, f, 0, 0, false)
		}
	}
}

// withRoom is the list with room behind it, filled with rest.
func withRoom[T any](l []T, rest T) []T {
	long := append(slices.Clone(l), slices.Repeat([]T{rest}, 64)...)
	return long[:len(l)]
}

// roomOf is what stands behind.
func roomOf[T any](l []T) []T { return l[:len(l)+64][len(l):] }

// TestP1ArgumentsStay: what is handed in is not changed, nor the room behind it, and that room is not read.
func TestP1ArgumentsStay(t *testing.T) {
	wrong := cfa.Op{Kind: 99}
	program := ops(advance(1), defOffset(16))
	initial, l := withRoom(cfa.Usual(), wrong), withRoom(program, wrong)
	c := withRoom(cies(ehframe.Cie{Enc: 27, Initial: initial}), usual(13))
	f := withRoom(fdes(fde(0, 4096, 9, l...)), fde(7, 7, 7))
	f[0].Ops = l
	checkCheck(t, c, f, api.OK)
	b, at, e := ehframe.Write(c, f, 0, true)
	if e != api.OK || len(b) != 24+24+4 || !slices.Equal(at, []int{24}) {
		t.Error(b, at, e)
	}
	checkFind(t, f, 10, 0, false)
	if !sameTables(c, cies(usual(27)), f, fdes(fde(0, 4096, 9, program...))) {
		t.Error(c, f)
	}
	for _, o := range join2(roomOf(initial), roomOf(l)) {
		if o != wrong {
			t.Error(o)
		}
	}
	for k := range 64 {
		if roomOf(c)[k].Enc != 13 || roomOf(f)[k].Cie != 7 {
			t.Error(roomOf(c), roomOf(f))
		}
	}

	read := withRoom(b, 1)
	checkRead(t, read, 0, cies(usual(27)), fdes(fde(0, 4096, 9, program...)), api.OK)
	checkGet(t, read, 48, ehframe.Abs, 0, 0, 0, 0, api.ErrEnd)
	if !bytes.Equal(read, b) || !bytes.Equal(roomOf(read), bytes.Repeat([]byte{1}, 64)) {
		t.Error(read)
	}
}

func join2[T any](x, y []T) []T { return append(slices.Clone(x), y...) }

// TestP1AnswersAreNew: what is done to an answer, and to the room behind it, is not seen in another one, nor in what was handed in.
func TestP1AnswersAreNew(t *testing.T) {
	for range 3 {
		b, e := ehframe.Put(ehframe.Uleb, 300, 0, 0)
		b2, e2 := ehframe.Put(ehframe.Uleb, 300, 0, 0)
		spoil(b)
		if e != api.OK || e2 != api.OK || !bytes.Equal(b2, []byte{172, 2}) {
			t.Error(b2)
		}
		c, f := cies(usual(27)), fdes(fde(0, 4096, 9, advance(1)))
		b, at, _ := ehframe.Write(c, f, 0, false)
		b2, at2, _ := ehframe.Write(c, f, 0, false)
		spoil(b)
		spoil(at)
		if len(b2) != 48 || b2[24] != 20 || at2[0] != 24 || !sameTables(c, cies(usual(27)), f, fdes(fde(0, 4096, 9, advance(1)))) {
			t.Error(b2, at2, c, f)
		}
		// No list of an answer reaches into the room of another one.
		c2, f2, e := ehframe.Read(b2, 0)
		if e != api.OK || len(c2) != 1 || len(f2) != 1 {
			t.Fatal(c2, f2, e)
		}
		spoil(c2[0].Initial)
		if !slices.Equal(f2[0].Ops, ops(advance(1))) {
			t.Error(f2)
		}
	}
}

// TestP1TheSameAgain: what is answered hangs on nothing else, many times and side by side.
func TestP1TheSameAgain(t *testing.T) {
	random := seeded(11)
	var tables [][]byte
	for range 300 {
		c, f := anyTables(random)
		b, _, _ := modelWrite(c, f, 0, true)
		tables = append(tables, spoiled(random, b))
	}
	done := make(chan bool)
	for range 8 {
		go func() {
			same := true
			for _, b := range tables {
				wantC, wantF, ok := modelRead(b, 0)
				c, f, e := ehframe.Read(b, 0)
				same = same && (e == api.OK) == ok && (!ok || sameTables(c, wantC, f, wantF))
				want, wantAt, wantE := modelWrite(c, f, 77, false)
				again, at, e := ehframe.Write(c, f, 77, false)
				same = same && e == wantE && bytes.Equal(again, want) && slices.Equal(at, wantAt)
			}
			done <- same
		}()
	}
	for range 8 {
		if !<-done {
			t.Error("not the same again")
		}
	}
}
