package symtab_test

import (
	"math/big"
	"strings"
	"testing"

	"gangway/symtab"
)

func TestP806Known(t *testing.T) {
	for _, c := range []struct {
		name      string
		hash, gnu uint32
	}{
		{"", 0, 5381},
		{"\x00", 0, 177573},
		{"a", 97, 177670},
		{"\xff", 255, 177828},
		{"ab", 1650, 5863208},
		{"printf", 125371814, 359345080},
		{"exit", 0x0006cf04, 0x7c967e3f},
		{"syscall", 0x0b09985c, 0xbac212a0},
		{"flapenguin.me", 0x03987915, 0x8ae9f18e},
	} {
		if h, g := symtab.Hash(c.name), symtab.Gnu(c.name); h != c.hash || g != c.gnu {
			t.Errorf("%q: %#x, %#x; want %#x, %#x", c.name, h, g, c.hash, c.gnu)
		}
	}
}

// modelHash, modelGnu: in true numbers, cut to 32 bits where the chapter says so; the four top bits go, and each of them turns the one 24 below it.
func modelHash(name string) uint32 {
	h := big.NewInt(0)
	for _, c := range []byte(name) {
		h.Mul(h, big.NewInt(16))
		h.Add(h, big.NewInt(int64(c)))
		for k := h.BitLen(); k >= 32; k-- {
			h.SetBit(h, k, 0)
		}
		for k := 28; k < 32; k++ {
			if h.Bit(k) == 1 {
				h.SetBit(h, k, 0)
				h.SetBit(h, k-24, 1-h.Bit(k-24))
			}
		}
	}
	return uint32(h.Uint64())
}

func modelGnu(name string) uint32 {
	h := big.NewInt(5381)
	for _, c := range []byte(name) {
		h.Mul(h, big.NewInt(33))
		h.Add(h, big.NewInt(int64(c)))
	}
	return uint32(h.Mod(h, big.NewInt(1<<32)).Uint64())
}

// hashed: names of all single bytes and of many rows of bytes, up to long ones.
func hashed() []string {
	var l []string
	for c := range 256 {
		one := string([]byte{byte(c)})
		for _, n := range []int{1, 2, 6, 7, 8, 9, 31, 255, 1000} {
			l = append(l, strings.Repeat(one, n), strings.Repeat("a"+one, n), strings.Repeat(one+"\xff\x0f", n))
		}
		l = append(l, "printf"+one, one+"printf", "_ZN4core"+one+"3fmt9Formatter")
	}
	return append(l, numbered(2000)...)
}

func TestP806Model(t *testing.T) {
	for _, name := range hashed() {
		if h, g := symtab.Hash(name), symtab.Gnu(name); h != modelHash(name) || g != modelGnu(name) {
			t.Errorf("%.80q: %#x, %#x; want %#x, %#x", name, h, g, modelHash(name), modelGnu(name))
		}
	}
}

func TestP810HashIsBelow(t *testing.T) {
	for _, name := range hashed() {
		if h := symtab.Hash(name); h >= 1<<28 {
			t.Errorf("%.80q: %#x", name, h)
		}
	}
}

func TestP810GnuOfOneByteMore(t *testing.T) {
	for _, name := range append(hashed(), "") {
		g := uint64(symtab.Gnu(name))
		for c := range 256 {
			if more := symtab.Gnu(name + string([]byte{byte(c)})); uint64(more) != (33*g+uint64(c))%(1<<32) {
				t.Fatalf("%.80q and %d: %#x behind %#x", name, c, more, g)
			}
		}
	}
}
