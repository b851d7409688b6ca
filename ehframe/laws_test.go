package ehframe_test

import (
	"bytes"
	"slices"
	"testing"

	"gangway/api"
	"gangway/cfa"
	"gangway/ehframe"
)

func TestP1407Pointers(t *testing.T) {
	random := seeded(6)
	around := [][]byte{nil, {0}, {255}, {128, 128}, bytes.Repeat([]byte{255}, 12), make([]byte, 12)}
	done := map[int]int{}
	for range 200000 {
		enc := pick(random, encodings())
		v, at, data := nearEdges(random), nearEdges(random), nearEdges(random)
		if random.IntN(2) == 0 {
			at, data = v-random.IntN(300), v-random.IntN(300)
		}
		b, e := ehframe.Put(enc, v, at, data)
		if e != api.OK {
			continue
		}
		ahead := pick(random, around)
		if addr := at - len(ahead); addr >= -far {
			checkGet(t, join(ahead, b, pick(random, around)), len(ahead), enc, addr, data, v, len(ahead)+len(b), api.OK)
			done[enc]++
		}
	}
	for _, enc := range encodings() {
		if done[enc] < 100 {
			t.Error(enc, done[enc])
		}
	}
}

// withoutNops: at the end.
func withoutNops(l []cfa.Op) []cfa.Op {
	for len(l) > 0 && l[len(l)-1] == nop() {
		l = l[:len(l)-1]
	}
	return l
}

// readable is what Read of Write answers: grouped, without Nops at the ends.
func readable(c []ehframe.Cie, f []ehframe.Fde) ([]ehframe.Cie, []ehframe.Fde) {
	var c2 []ehframe.Cie
	for _, x := range c {
		x.Initial = withoutNops(x.Initial)
		c2 = append(c2, x)
	}
	f2 := slices.Clone(f)
	for k := range f2 {
		f2[k].Ops = withoutNops(f2[k].Ops)
	}
	slices.SortStableFunc(f2, func(x, y ehframe.Fde) int { return x.Cie - y.Cie })
	return c2, f2
}

func TestP1407Tables(t *testing.T) {
	random := seeded(7)
	done := 0
	for range 40000 {
		c, f := anyTables(random)
		addr := anyStart(random)
		b, at, e := ehframe.Write(c, f, addr, random.IntN(2) == 0)
		if e != api.OK {
			continue
		}
		done++
		c2, f2 := readable(c, f)
		checkRead(t, b, addr, c2, f2, api.OK)
		for k, place := range at {
			if v, _, e := ehframe.Get(b, place+8, c[f[k].Cie].Enc, addr, 0); v != f[k].Begin || e != api.OK {
				t.Error(c, f, k, v, e)
			}
		}
	}
	if done < 10000 {
		t.Error(done)
	}
}

// TestP1407Most: as many, and as long ones, as may be.
func TestP1407Most(t *testing.T) {
	c := slices.Repeat(cies(usual(ehframe.Pcrel+ehframe.S4)), 1000)
	var f []ehframe.Fde
	for k := range mostRows {
		f = append(f, fde(k*7%1000, 4096+k, 9, advance(k%10)))
	}
	b, _, e := ehframe.Write(c, f, 1<<20, true)
	if e != api.OK {
		t.Fatal(e)
	}
	c2, f2 := readable(c, f)
	checkRead(t, b, 1<<20, c2, f2, api.OK)

	for _, last := range []cfa.Op{nop(), sameValue(3), advance(1)} {
		for behind := range 9 {
			long := append(slices.Repeat(ops(sameValue(3)), mostOps-1-behind), last)
			initial := usualWith(slices.Repeat(ops(sameValue(3)), mostOps-2)...)
			c := cies(ehframe.Cie{Enc: ehframe.U2, Initial: initial})
			f := fdes(fde(0, 7, 9, long...))
			b, _, e := ehframe.Write(c, f, 0, false)
			if e != api.OK {
				t.Fatal(e)
			}
			c2, f2 := readable(c, f)
			checkRead(t, b, 0, c2, f2, api.OK)
		}
	}
}

func TestP1408Moved(t *testing.T) {
	random := seeded(8)
	done := 0
	for range 40000 {
		c, f := anyTables(random)
		for k := range c {
			c[k].Enc = ehframe.Pcrel + c[k].Enc%16
		}
		addr, by := random.IntN(30000), pick(random, []int{1, 8, 4096, 1 << 40, start - 30000, -5, -3000})
		moved := slices.Clone(f)
		for k := range moved {
			moved[k].Begin += by
		}
		b, at, e := ehframe.Write(c, f, addr, true)
		b2, at2, e2 := ehframe.Write(c, moved, addr+by, true)
		if e != api.OK || e2 != api.OK {
			if e != e2 && addr+by >= 0 && ehframe.Check(c, moved) == ehframe.Check(c, f) {
				t.Error(c, f, addr, by, e, e2)
			}
			continue
		}
		done++
		if !bytes.Equal(b, b2) || !slices.Equal(at, at2) {
			t.Errorf("%v, %v, %d by %d: %x, %x", c, f, addr, by, b, b2)
		}
	}
	if done < 5000 {
		t.Error(done)
	}
}

func TestP1409WholeRecords(t *testing.T) {
	random := seeded(9)
	done := 0
	for range 20000 {
		c, f := anyTables(random)
		addr := anyStart(random)
		b, _, e := ehframe.Write(c, f, addr, false)
		if e != api.OK || len(b) == 0 {
			continue
		}
		done++
		count := 0
		for at := 0; at < len(b); count++ {
			size := 4 + int(b[at]) + int(b[at+1])<<8 + int(b[at+2])<<16 + int(b[at+3])<<24
			if size%8 != 0 {
				t.Fatalf("%x", b)
			}
			at += size
			if at > len(b) {
				t.Fatalf("%x", b)
			}
		}
		if count != len(c)+len(f) {
			t.Error(count, c, f)
		}
		checkNoTable(t, b[:len(b)-1], addr)
		checkNoTable(t, join(b, []byte{0}), addr)
		withEnd, _, _ := ehframe.Write(c, f, addr, true)
		if !bytes.Equal(withEnd, join(b, make([]byte, 4))) {
			t.Errorf("%x, %x", b, withEnd)
		}
	}
	if done < 5000 {
		t.Error(done)
	}
}

// TestP1410NeverChanged: what is done to an answer is not seen in the bytes, nor in another answer.
func TestP1410NeverChanged(t *testing.T) {
	c := cies(usual(27), usual(0))
	f := fdes(fde(0, 1, 9, advance(1), defOffset(16)), fde(1, 2, 9, advance(2)), fde(1, 2, 9))
	b, _, _ := ehframe.Write(c, f, 100, true)
	before := bytes.Clone(b)
	for range 3 {
		c2, f2, e := ehframe.Read(b, 100)
		if e != api.OK || !sameTables(c, c2, f, f2) || !bytes.Equal(b, before) {
			t.Fatal(c2, f2, e)
		}
		for k := range c2 {
			spoil(c2[k].Initial)
		}
		for k := range f2 {
			spoil(f2[k].Ops)
		}
		spoil(c2)
		spoil(f2)
	}
}

// spoil writes over a list and the room behind it.
func spoil[T any](l []T) {
	clear(l[:cap(l)])
}
