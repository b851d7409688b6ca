package reloc_test

import (
	"bytes"
	"math/rand/v2"
	"testing"

	"gangway/api"
	"gangway/decode"
	"gangway/encode"
	"gangway/leb"
	"gangway/reloc"
)

// number is one that is often small, seldom too great for a place.
func number(random *rand.Rand) int {
	if random.IntN(12) == 0 {
		return pick(random, edges()...)
	}
	return random.IntN(1<<uint(1+random.IntN(59))) - random.IntN(1<<uint(1+random.IntN(59)))
}

// within is a number of at most so much, above or below 0.
func within(random *rand.Rand, most int) int { return random.IntN(2*most+1) - most }

// TestP2006MovedTogether: all moved by as much, the distances stay, and the address itself is moved.
func TestP2006MovedTogether(t *testing.T) {
	random := seeded(6)
	for range 20000 {
		p := reloc.Place{S: within(random, far/2), A: within(random, far), P: within(random, far/2), G: within(random, far/2), Tp: within(random, far)}
		by := within(random, far/2)
		q := p
		q.S, q.P, q.G = p.S+by, p.P+by, p.G+by
		for _, kind := range []int{api.RPc32, api.RPlt32, api.RGotPcrel, api.RGotTpoff} {
			v, _ := reloc.Value(kind, p)
			checkValue(t, kind, q, v, api.OK)
		}
		v, _ := reloc.Value(api.R64, p)
		checkValue(t, api.R64, q, v+by, api.OK)
	}
}

// fitting is a place at which the type's value is about v.
func fitting(random *rand.Rand, kind, v int) reloc.Place {
	p := reloc.Place{A: within(random, 1000), P: within(random, far/2), Tp: within(random, far/2)}
	p.S, p.G = v-p.A, v-p.A+p.P
	switch kind {
	case api.RPc32, api.RPlt32:
		p.S += p.P
	case api.RTpoff32, api.RDtpoff32:
		p.S += p.Tp
	}
	return p
}

// valueOf is one that fits the type, often at an edge.
func valueOf(random *rand.Rand, kind int) int {
	switch kind {
	case api.R64:
		return pick(random, within(random, far/2), -1, 0, 255, 256)
	case api.R32:
		return pick(random, 0, 1<<31-1, 1<<31, 1<<32-1, random.IntN(1<<32))
	}
	return pick(random, 0, -1, -1<<31, 1<<31-1, within(random, 1<<31-1))
}

// TestP2007ReadAgain: by leb's Get.
func TestP2007ReadAgain(t *testing.T) {
	random := seeded(7)
	for range 20000 {
		kind := pick(random, worked()...)
		v := valueOf(random, kind)
		p := fitting(random, kind, v)
		b := numbered(8 + random.IntN(20))
		size, _ := reloc.Size(kind)
		at := random.IntN(len(b) - size + 1)
		got, e := reloc.Apply(b, at, kind, p)
		if n, f := leb.Get(got, at, size, kind != api.R32); n != v || e != api.OK || f != api.OK {
			t.Error(kind, v, p, n, e, f)
		}
		checkValue(t, kind, p, v, api.OK)
	}
}

// TestP2008OthersStay: outside of what is named all is as it was, in as many bytes.
func TestP2008OthersStay(t *testing.T) {
	random := seeded(8)
	for range 20000 {
		kind := pick(random, worked()...)
		p := fitting(random, kind, valueOf(random, kind))
		b := make([]byte, 8+random.IntN(30))
		for k := range b {
			b[k] = byte(random.IntN(256))
		}
		size, _ := reloc.Size(kind)
		at := random.IntN(len(b) - size + 1)
		got, _ := reloc.Apply(b, at, kind, p)
		if len(got) != len(b) || !bytes.Equal(got[:at], b[:at]) || !bytes.Equal(got[at+size:], b[at+size:]) {
			t.Error(kind, at, b, got)
		}
		hole := 3 + random.IntN(len(b)-6)
		copy(b[hole-3:], []byte{byte(pick(random, 0x48, 0x4c)), 0x8b, byte(8*random.IntN(8) + 5)})
		_, to, is := reloc.Relax(b, hole)
		if !is || len(to) != len(b) || !bytes.Equal(to[:hole-2], b[:hole-2]) || !bytes.Equal(to[hole-1:], b[hole-1:]) {
			t.Error(hole, b, to)
		}
	}
}

// TestP2009SameEffect: the relaxed instruction is as long, of the same size, and sets the same register to the address that the slot would have.
func TestP2009SameEffect(t *testing.T) {
	slot := api.Operand{Kind: api.Mem, Base: -1, Index: -1, Rip: true, Name: "x", Mod: api.GotPcrel}
	for r := range 16 {
		b, holes, e := encode.Bytes(api.Inst{Op: api.Mov, Size: 8, To: api.Operand{Kind: api.Reg, R: r}, From: slot})
		if e != api.OK {
			t.Fatal(r, e)
		}
		h := holes[0]
		op, to, is := reloc.Relax(append([]byte{0x90}, append(b, 0xc3)...), h.At+1)
		if op != 0x8d || !is || to[0] != 0x90 || to[len(to)-1] != 0xc3 {
			t.Fatal(r, op, to, is)
		}
		to, e = reloc.Apply(to, h.At+1, api.RPc32, reloc.Place{S: 5000, A: h.Add, P: 4000})
		old, length, _ := decode.One(b, 0)
		i, n, f := decode.One(to, 1)
		if e != api.OK || f != api.OK || n != length || i.Op != api.Lea || i.Size != old.Size || i.To != old.To || i.To.R != r {
			t.Error(r, i, old, n, length, e, f)
		}
		// The hole's place is 4000, and the instruction's end 4 bytes behind.
		if !i.From.Rip || i.From.N+4004 != 5000 {
			t.Error(r, i.From)
		}
	}
}
