package reloc_test

import (
	"math"
	"testing"

	"gangway/api"
	"gangway/encode"
)

func TestP2005Relax(t *testing.T) {
	checkRelax(t, []byte{0x48, 0x8b, 0x05, 1, 2, 3, 4}, 3, []byte{0x48, 0x8d, 0x05, 1, 2, 3, 4}, true)
	checkRelax(t, []byte{0x4c, 0x8b, 0x3d, 1, 2, 3, 4}, 3, []byte{0x4c, 0x8d, 0x3d, 1, 2, 3, 4}, true)
	checkRelax(t, []byte{9, 0x8b, 0x48, 0x8b, 0x1d, 0x8b, 2, 3, 4, 0x8b}, 5, []byte{9, 0x8b, 0x48, 0x8d, 0x1d, 0x8b, 2, 3, 4, 0x8b}, true)
	checkRelax(t, []byte{0x48, 0x03, 0x05, 1, 2, 3, 4}, 3, nil, false)
}

// TestP2005AheadOfIt: all that may stand ahead of the hole in the place of each of the three bytes.
func TestP2005AheadOfIt(t *testing.T) {
	for x := range 256 {
		for _, right := range [][3]byte{{0x48, 0x8b, 0x05}, {0x4c, 0x8b, 0x35}} {
			for k := range right {
				bytes := right
				bytes[k] = byte(x)
				b := append(bytes[:], 9, 8, 7, 6, 5)
				want, is := modelRelax(b, 3)
				checkRelax(t, b, 3, want, is)
			}
		}
	}
}

// TestP2005Places: where the hole or what must be ahead of it is not there.
func TestP2005Places(t *testing.T) {
	row := []byte{0x48, 0x8b, 0x05}
	for length := range 8 {
		b := append([]byte{}, row...)
		b = append(b, 0, 0, 0, 0, 0)[:length]
		for at := -4; at < 12; at++ {
			want, is := modelRelax(b, at)
			checkRelax(t, b, at, want, is)
		}
	}
	b := []byte{0x48, 0x8b, 0x05, 0, 0, 0, 0}
	for _, at := range []int{math.MinInt, math.MinInt + 3, -1, 0, 1, 2, 4, 5, 6, 7, 8, 1 << 32, 1<<32 + 3, math.MaxInt - 3, math.MaxInt} {
		checkRelax(t, b, at, nil, false)
	}
	checkRelax(t, b, 3, []byte{0x48, 0x8d, 0x05, 0, 0, 0, 0}, true)
	checkRelax(t, b[:6], 3, nil, false)
	checkRelax(t, nil, 0, nil, false)
	checkRelax(t, nil, 3, nil, false)
}

// slotted are instructions of all ops and sizes that read a name's slot, or have it elsewhere.
func slotted() []api.Inst {
	var l []api.Inst
	memory := api.Operand{Kind: api.Mem, Base: -1, Index: -1, Rip: true, Name: "x", Mod: api.GotPcrel}
	for op := range api.LastOp + 1 {
		for _, size := range []int{0, 1, 4, 8} {
			for r := range 16 {
				register := api.Operand{Kind: api.Reg, R: r, Base: 0, Index: 0}
				for _, i := range []api.Inst{{To: register, From: memory}, {To: memory, From: register}, {To: memory}, {From: memory}, {To: memory, From: api.Operand{Kind: api.Imm, N: 1}}} {
					i.Op, i.Size = op, size
					l = append(l, i)
				}
			}
		}
	}
	return l
}

// TestP2005OfInstructions: of all that encode writes just Mov of 8 bytes to a register is taken, and Lea's bytes are what becomes of it.
func TestP2005OfInstructions(t *testing.T) {
	taken := 0
	for _, i := range slotted() {
		b, holes, e := encode.Bytes(i)
		if e != api.OK || len(holes) == 0 || holes[0].Type != api.RGotPcrel {
			continue
		}
		is := i.Op == api.Mov && i.Size == 8 && i.To.Kind == api.Reg
		var want []byte
		if is {
			lea := i
			lea.Op, lea.From.Mod = api.Lea, api.Plain
			want, _, _ = encode.Bytes(lea)
			taken++
		}
		checkRelax(t, b, holes[0].At, want, is)
	}
	if taken != 16 {
		t.Error(taken)
	}
}

// TestP2005Model: bytes that are often right, at any place.
func TestP2005Model(t *testing.T) {
	random := seeded(5)
	for range 40000 {
		b := numbered(random.IntN(14))
		for k := range b {
			b[k] = pick(random, 0x48, 0x4c, 0x8b, 0x8b, 0x05, 0x0d, 0x3d, 0x45, 0x49, 0x8a, byte(random.IntN(256)))
		}
		at := random.IntN(len(b)+6) - 3
		if at >= 3 && at <= len(b) && random.IntN(2) == 0 {
			copy(b[at-3:], []byte{byte(pick(random, 0x48, 0x4c)), 0x8b, byte(8*random.IntN(8) + 5)})
		}
		want, is := modelRelax(b, at)
		checkRelax(t, b, at, want, is)
	}
}
