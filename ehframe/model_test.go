package ehframe_test

import (
	"bytes"
	"math/big"
	"math/rand/v2"
	"slices"
	"testing"

	"gangway/api"
	"gangway/cfa"
	"gangway/ehframe"
)

// The model: numbers without limits, bytes cut up one by one, ops found by trying.

func big1(n int) *big.Int { return big.NewInt(int64(n)) }

func power(k int) *big.Int { return new(big.Int).Lsh(big.NewInt(1), uint(k)) }

func isFar(n *big.Int) bool { return n.CmpAbs(power(60)) > 0 }

// modelShape is the kind of an encoding's number, and what is taken off (0: nothing, 1: the place, 2: data).
func modelShape(enc int) (s shape, from int, ok bool) {
	for _, s := range shapes() {
		for k, added := range []int{0, ehframe.Pcrel, ehframe.Datarel} {
			if enc == s.enc+added {
				return s, k, true
			}
		}
	}
	return shape{}, 0, false
}

// modelBytes writes a number, and tells whether there is room.
func modelBytes(s shape, n *big.Int) ([]byte, bool) {
	if !s.signed && n.Sign() < 0 {
		return nil, false
	}
	var b []byte
	if s.size == 0 {
		rest := new(big.Int).Set(n)
		for {
			group := byte(new(big.Int).And(rest, big1(127)).Int64())
			rest.Rsh(rest, 7) // rounds down
			last := rest.Sign() == 0
			if s.signed {
				last = last && group < 64 || rest.Cmp(big1(-1)) == 0 && group >= 64
			}
			if last {
				return append(b, group), true
			}
			b = append(b, group|128)
		}
	}
	low, high := new(big.Int), power(8*s.size)
	if s.signed {
		low, high = new(big.Int).Neg(power(8*s.size-1)), power(8*s.size-1)
	}
	if n.Cmp(low) < 0 || n.Cmp(high) >= 0 {
		return nil, false
	}
	for k := range s.size {
		b = append(b, byte(new(big.Int).And(new(big.Int).Rsh(n, uint(8*k)), big1(255)).Int64()))
	}
	return b, true
}

func modelPut(enc, v, at, data int) ([]byte, api.Errno) {
	s, from, ok := modelShape(enc)
	if !ok {
		return nil, api.ErrFrame
	}
	n := new(big.Int).Sub(big1(v), []*big.Int{big1(0), big1(at), big1(data)}[from])
	if isFar(big1(v)) || isFar(big1(at)) || isFar(big1(data)) || isFar(n) {
		return nil, api.ErrRange
	}
	b, ok := modelBytes(s, n)
	if !ok {
		return nil, api.ErrRange
	}
	return b, api.OK
}

// modelNumber reads one.
func modelNumber(s shape, b []byte, at int) (n *big.Int, end int, e api.Errno) {
	if at < 0 || at >= len(b) {
		return nil, 0, api.ErrEnd
	}
	n = new(big.Int)
	if s.size > 0 {
		if len(b)-at < s.size {
			return nil, 0, api.ErrEnd
		}
		for k := range s.size {
			n.Add(n, new(big.Int).Mul(big1(int(b[at+k])), power(8*k)))
		}
		if s.signed && n.Cmp(power(8*s.size-1)) >= 0 {
			n.Sub(n, power(8*s.size))
		}
		return n, at + s.size, api.OK
	}
	for k := 0; ; k++ {
		switch {
		case at+k >= len(b):
			return nil, 0, api.ErrEnd
		case k == 10:
			return nil, 0, api.ErrLeb
		}
		x := b[at+k]
		n.Add(n, new(big.Int).Mul(big1(int(x&127)), power(7*k)))
		if x >= 128 {
			continue
		}
		if s.signed && x >= 64 {
			n.Sub(n, power(7*k+7))
		}
		if s.signed && (n.Cmp(power(63)) >= 0 || n.Cmp(new(big.Int).Neg(power(63))) < 0) || n.Cmp(power(64)) >= 0 {
			return nil, 0, api.ErrLeb
		}
		return n, at + k + 1, api.OK
	}
}

func modelGet(b []byte, at, enc, addr, data int) (v, end int, e api.Errno) {
	s, from, ok := modelShape(enc)
	if !ok {
		return 0, 0, api.ErrFrame
	}
	if isFar(big1(addr)) || isFar(big1(data)) {
		return 0, 0, api.ErrRange
	}
	n, end, e := modelNumber(s, b, at)
	if e != api.OK {
		return 0, 0, e
	}
	if isFar(n) {
		return 0, 0, api.ErrRange
	}
	n = new(big.Int).Add(n, []*big.Int{big1(0), new(big.Int).Add(big1(addr), big1(at)), big1(data)}[from])
	if isFar(n) {
		return 0, 0, api.ErrRange
	}
	return int(n.Int64()), end, api.OK
}

func modelCheck(c []ehframe.Cie, f []ehframe.Fde) api.Errno {
	tooMany, wrong, refused := len(c) > 4000 || len(f) > 4000, false, false
	for _, x := range c {
		_, _, ok := modelShape(x.Enc)
		tooMany = tooMany || len(x.Initial) > 3992
		wrong = wrong || !ok
		refused = refused || cfa.Check(x.Initial, nil, 0) != api.OK
	}
	for _, x := range f {
		tooMany = tooMany || len(x.Ops) > 3992
		wrong = wrong || x.Cie < 0 || x.Cie >= len(c) || isFar(big1(x.Begin)) || x.Size < 0 || x.Size > 1<<20
		refused = refused || x.Cie >= 0 && x.Cie < len(c) && cfa.Check(c[x.Cie].Initial, x.Ops, x.Size) != api.OK
	}
	switch {
	case tooMany:
		return api.ErrSize
	case wrong:
		return api.ErrFrame
	case refused:
		return api.ErrCfa
	}
	return api.OK
}

// modelRecord is one that is written at a place.
func modelRecord(id int, body []byte, l []cfa.Op) []byte {
	b, _ := cfa.Write(l)
	all := join([]byte{byte(id), byte(id >> 8), byte(id >> 16), byte(id >> 24)}, body, b)
	for (len(all)+4)%8 != 0 {
		all = append(all, 0)
	}
	return sized(all)
}

func modelWrite(c []ehframe.Cie, f []ehframe.Fde, addr int, end bool) ([]byte, []int, api.Errno) {
	if e := modelCheck(c, f); e != api.OK {
		return nil, nil, e
	}
	if addr < 0 || addr > start {
		return nil, nil, api.ErrRange
	}
	var b []byte
	at := make([]int, len(f))
	for k, x := range c {
		place := len(b)
		b = append(b, modelRecord(0, []byte{1, 'z', 'R', 0, 1, 120, 16, 1, byte(x.Enc)}, x.Initial)...)
		for i, y := range f {
			if y.Cie != k {
				continue
			}
			at[i] = len(b)
			begin, e := modelPut(x.Enc, y.Begin, addr+len(b)+8, 0)
			size, e2 := modelPut(x.Enc%16, y.Size, 0, 0)
			if e != api.OK || e2 != api.OK {
				return nil, nil, api.ErrRange
			}
			b = append(b, modelRecord(len(b)+4-place, join(begin, size, []byte{0}), y.Ops)...)
		}
	}
	if end {
		b = append(b, 0, 0, 0, 0)
	}
	if len(b) > 1<<20 {
		return nil, nil, api.ErrSize
	}
	return b, at, api.OK
}

// modelOps cuts up ops one by one.
func modelOps(b []byte) ([]cfa.Op, bool) {
	var l []cfa.Op
	for len(b) > 0 {
		size := 0
		for n := 1; n <= len(b) && size == 0; n++ {
			if one, e := cfa.Read(b[:n]); e == api.OK {
				l, size = append(l, one...), n
			}
		}
		if size == 0 {
			return nil, false
		}
		b = b[size:]
	}
	for len(l) > 0 && l[len(l)-1] == nop() {
		l = l[:len(l)-1]
	}
	return l, true
}

// modelRead is a table, and whether the bytes are one.
func modelRead(b []byte, addr int) (c []ehframe.Cie, f []ehframe.Fde, ok bool) {
	places := []int{} // of the CIEs
	at := 0
	for at < len(b) && !bytes.Equal(b[at:], []byte{0, 0, 0, 0}) {
		length, behind, e := modelNumber(shape{size: 4}, b, at)
		if e != api.OK || length.Cmp(big1(len(b)-behind)) > 0 || length.Int64()%4 != 0 {
			return nil, nil, false
		}
		end := behind + int(length.Int64())
		id, place, e := modelNumber(shape{size: 4}, b[:end], behind)
		if e != api.OK {
			return nil, nil, false
		}
		back := slices.Index(places, behind-int(id.Int64()))
		if id.Sign() == 0 {
			x, ok := modelCie(b[place:end])
			if !ok {
				return nil, nil, false
			}
			c, places = append(c, x), append(places, at)
		} else if back < 0 {
			return nil, nil, false
		} else {
			x, ok := modelFde(b[:end], place, addr, back, c[back].Enc)
			if !ok {
				return nil, nil, false
			}
			f = append(f, x)
		}
		at = end
	}
	return c, f, modelCheck(c, f) == api.OK
}

func modelCie(b []byte) (ehframe.Cie, bool) {
	if !bytes.HasPrefix(b, []byte{1, 'z', 'R', 0}) {
		return ehframe.Cie{}, false
	}
	code, at, e := modelNumber(shape{}, b, 4)
	if e != api.OK || code.Cmp(big1(1)) != 0 {
		return ehframe.Cie{}, false
	}
	data, at, e := modelNumber(shape{signed: true}, b, at)
	if e != api.OK || data.Cmp(big1(-8)) != 0 || len(b) < at+3 || b[at] != 16 || b[at+1] != 1 {
		return ehframe.Cie{}, false
	}
	l, ok := modelOps(b[at+3:])
	return ehframe.Cie{Enc: int(b[at+2]), Initial: l}, ok
}

func modelFde(b []byte, at, addr, cie, enc int) (ehframe.Fde, bool) {
	begin, at, e := modelGet(b, at, enc, addr, 0)
	if e != api.OK {
		return ehframe.Fde{}, false
	}
	size, at, e := modelGet(b, at, enc%16, 0, 0)
	if e != api.OK || at >= len(b) || b[at] != 0 {
		return ehframe.Fde{}, false
	}
	l, ok := modelOps(b[at+1:])
	return ehframe.Fde{Cie: cie, Begin: begin, Size: size, Ops: l}, ok
}

// nearEdges are numbers about which something changes.
func nearEdges(random *rand.Rand) int {
	n := 1 << random.IntN(63)
	n += random.IntN(5) - 2
	if random.IntN(2) == 0 {
		n = -n
	}
	if random.IntN(4) == 0 {
		n = random.IntN(300) - 150
	}
	return n
}

func anyEncoding(random *rand.Rand) int {
	if random.IntN(20) == 0 {
		return random.IntN(300) - 20
	}
	return pick(random, encodings())
}

func TestP1401ByModel(t *testing.T) {
	random := seeded(1)
	right := 0
	for range 300000 {
		enc, v, at, data := anyEncoding(random), nearEdges(random), nearEdges(random), nearEdges(random)
		if random.IntN(2) == 0 {
			at, data = v+random.IntN(9)-4, v-random.IntN(9)+4
		}
		want, e := modelPut(enc, v, at, data)
		checkPut(t, enc, v, at, data, want, e)
		if e == api.OK {
			right++
		}
	}
	if right < 50000 {
		t.Error(right)
	}
}

func TestP1402ByModel(t *testing.T) {
	random := seeded(2)
	right := 0
	for range 300000 {
		b := make([]byte, random.IntN(14))
		for k := range b {
			b[k] = pick(random, []byte{0, 1, 15, 16, 17, 127, 128, 129, 240, 255, byte(random.Uint32())})
		}
		at, enc, addr, data := random.IntN(5)-1, anyEncoding(random), nearEdges(random), nearEdges(random)
		v, end, e := modelGet(b, at, enc, addr, data)
		checkGet(t, b, at, enc, addr, data, v, end, e)
		if e == api.OK {
			right++
		}
	}
	if right < 50000 {
		t.Error(right)
	}
}

func anyOps(random *rand.Rand) []cfa.Op {
	var l []cfa.Op
	for range random.IntN(6) {
		l = append(l, pick(random, ops(nop(), nop(), advance(0), advance(1), advance(3), defCfa(6, 16), defOffset(0), defOffset(300), offset(6, -16), offset(3, 8), offset(3, 0), sameValue(0), sameValue(16), cfa.Op{Kind: cfa.Restore, R: 6}, cfa.Op{Kind: cfa.Remember}, recall())))
	}
	return l
}

func anyTables(random *rand.Rand) ([]ehframe.Cie, []ehframe.Fde) {
	var c []ehframe.Cie
	var f []ehframe.Fde
	for range random.IntN(4) {
		x := usual(pick(random, encodings()))
		for range random.IntN(3) {
			x.Initial = append(x.Initial, pick(random, ops(nop(), nop(), sameValue(3), defOffset(0))))
		}
		if random.IntN(40) == 0 {
			x = ehframe.Cie{Enc: anyEncoding(random), Initial: anyOps(random)}
		}
		c = append(c, x)
	}
	for range random.IntN(5) {
		begin := random.IntN(40000)
		if random.IntN(10) == 0 {
			begin = nearEdges(random)
		}
		size := random.IntN(100)
		if random.IntN(20) == 0 {
			size = nearEdges(random)
		}
		f = append(f, fde(random.IntN(max(len(c), 1)), begin, size, anyOps(random)...))
	}
	return c, f
}

func anyStart(random *rand.Rand) int {
	return pick(random, []int{0, 0, 1, 100, 8192, 8192, random.IntN(30000), start, start + 1, -1, nearEdges(random)})
}

func TestP1404ByModel(t *testing.T) {
	random := seeded(3)
	found := map[api.Errno]int{}
	for range 40000 {
		c, f := anyTables(random)
		addr, end := anyStart(random), random.IntN(2) == 0
		checkCheck(t, c, f, modelCheck(c, f))
		want, at, e := modelWrite(c, f, addr, end)
		checkWrite(t, c, f, addr, end, want, at, e)
		found[e]++
	}
	for _, e := range []api.Errno{api.OK, api.ErrFrame, api.ErrCfa, api.ErrRange} {
		if found[e] < 500 {
			t.Error(found)
		}
	}
}

// spoiled are bytes with some of them changed, left out or put in.
func spoiled(random *rand.Rand, b []byte) []byte {
	b = bytes.Clone(b)
	for range random.IntN(3) {
		at := random.IntN(len(b) + 1)
		x := pick(random, []byte{0, 0, 1, 4, 8, 10, 16, 27, 64, 128, 255, byte(random.Uint32())})
		switch random.IntN(4) {
		case 0:
			b = slices.Insert(b, at, make([]byte, 4*random.IntN(3))...)
		case 1:
			n := min(len(b)-at, 4*random.IntN(3))
			b = slices.Delete(b, at, at+n)
		default:
			if at < len(b) {
				b[at] = x
			}
		}
	}
	return b
}

// longer puts bytes into records behind their ids, and tells their lengths anew: else hardly one were whole.
func longer(random *rand.Rand, b []byte) []byte {
	var out []byte
	for at := 0; at+4 <= len(b); {
		length := int(b[at]) | int(b[at+1])<<8
		body := bytes.Clone(b[at+4 : min(at+4+length, len(b))])
		if len(body) > 4 && random.IntN(4) == 0 {
			place := 4 + random.IntN(len(body)-3)
			body = slices.Insert(body, place, make([]byte, random.IntN(5))...)
			if random.IntN(2) == 0 {
				body[place-1] ^= 128
			}
			for len(body)%4 != 0 && random.IntN(9) > 0 {
				body = append(body, 0)
			}
		}
		out = append(out, sized(body)...)
		at += 4 + length
	}
	return out
}

func TestP1405ByModel(t *testing.T) {
	random := seeded(4)
	found := map[bool]int{}
	for range 60000 {
		c, f := anyTables(random)
		addr := random.IntN(30000)
		b, _, e := modelWrite(c, f, addr, random.IntN(2) == 0)
		if e != api.OK {
			continue
		}
		if random.IntN(2) == 0 {
			b = longer(random, b)
		} else {
			b = spoiled(random, b)
		}
		wantC, wantF, ok := modelRead(b, addr)
		if ok {
			checkRead(t, b, addr, wantC, wantF, api.OK)
		} else {
			checkNoTable(t, b, addr)
		}
		found[ok]++
	}
	if found[true] < 5000 || found[false] < 5000 {
		t.Error(found)
	}
}

// TestP1405AnyBytes: short records of any bytes behind a CIE's first ones.
func TestP1405AnyBytes(t *testing.T) {
	random := seeded(5)
	found := 0
	for range 100000 {
		first := record(usualCie)
		first[16] = byte(pick(random, encodings()))
		body := []byte{28, 0, 0, 0}
		for range 4 * random.IntN(8) {
			body = append(body, pick(random, []byte{0, 0, 0, 0, 0, 0, 0, 0, 0, 0, 1, 2, 4, 12, 64, 65, 128, 131, 255}))
		}
		b := join(first, sized(body))
		wantC, wantF, ok := modelRead(b, 0)
		if !ok {
			checkNoTable(t, b, 0)
			continue
		}
		checkRead(t, b, 0, wantC, wantF, api.OK)
		found++
	}
	if found < 2000 {
		t.Error(found)
	}
}
