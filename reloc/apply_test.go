package reloc_test

import (
	"math"
	"slices"
	"testing"

	"gangway/api"
	"gangway/reloc"
)

func TestP2003Apply(t *testing.T) {
	b := []byte{1, 2, 3, 4, 5, 6, 7, 8, 9, 10}
	checkApply(t, b, 1, api.R64, reloc.Place{S: 0x0102030405060700, A: 8}, []byte{1, 8, 7, 6, 5, 4, 3, 2, 1, 10}, api.OK)
	checkApply(t, b, 1, api.R64, reloc.Place{S: -3, A: 1}, []byte{1, 254, 255, 255, 255, 255, 255, 255, 255, 10}, api.OK)
	checkApply(t, b, 3, api.RPc32, reloc.Place{S: 4200, A: -4, P: 4101}, []byte{1, 2, 3, 95, 0, 0, 0, 8, 9, 10}, api.OK)
	checkApply(t, b, 6, api.RTpoff32, reloc.Place{S: 100, Tp: 132}, []byte{1, 2, 3, 4, 5, 6, 224, 255, 255, 255}, api.OK)
	checkApply(t, b, 0, api.R32, reloc.Place{S: 1<<32 - 1}, []byte{255, 255, 255, 255, 5, 6, 7, 8, 9, 10}, api.OK)
	checkApply(t, b, 0, api.R32S, reloc.Place{A: -1 << 31}, []byte{0, 0, 0, 128, 5, 6, 7, 8, 9, 10}, api.OK)
	checkApply(t, b, 2, api.RGotPcrel, reloc.Place{S: 1, G: 0x10203, P: 1}, []byte{1, 2, 2, 2, 1, 0, 7, 8, 9, 10}, api.OK)
}

// TestP2003Places: the bytes lie within b just from its beginning to where it ends.
func TestP2003Places(t *testing.T) {
	for _, kind := range worked() {
		size, _ := modelSize(kind)
		for length := range 20 {
			b := numbered(length)
			for at := -9; at < 30; at++ {
				checkModel(t, b, at, kind, reloc.Place{S: 0x1234567, G: 0x1234567})
			}
			for _, at := range []int{math.MinInt, math.MinInt + 1, math.MinInt + 8, -1 << 32, 1 << 32, math.MaxInt - 8, math.MaxInt - 3, math.MaxInt} {
				checkApply(t, b, at, kind, reloc.Place{}, nil, api.ErrReloc)
			}
		}
		checkApply(t, numbered(size), 0, kind, reloc.Place{}, make([]byte, size), api.OK)
		checkApply(t, numbered(size), 1, kind, reloc.Place{}, nil, api.ErrReloc)
		checkApply(t, numbered(size-1), 0, kind, reloc.Place{}, nil, api.ErrReloc)
		checkApply(t, nil, 0, kind, reloc.Place{}, nil, api.ErrReloc)
	}
}

func TestP2003Overflow(t *testing.T) {
	for _, kind := range worked() {
		for _, v := range edges() {
			// All that asks for S or G has it alone here.
			checkModel(t, numbered(9), 1, kind, reloc.Place{S: v, G: v})
			checkModel(t, numbered(9), 1, kind, reloc.Place{A: v})
		}
	}
	b := numbered(4)
	checkApply(t, b, 0, api.RPc32, reloc.Place{S: 1 << 31}, nil, api.ErrOverflow)
	checkApply(t, b, 0, api.R32, reloc.Place{A: -1}, nil, api.ErrOverflow)
	checkApply(t, b, 0, api.R32, reloc.Place{S: 1 << 32}, nil, api.ErrOverflow)
	checkApply(t, b, 0, api.R32S, reloc.Place{S: 1 << 31}, nil, api.ErrOverflow)
	checkApply(t, b, 0, api.RTpoff32, reloc.Place{Tp: 1<<31 + 1}, nil, api.ErrOverflow)
}

// TestP2003Size: MaxBytes bytes may be, one more may not.
func TestP2003Size(t *testing.T) {
	b := numbered(api.MaxBytes)
	want := slices.Clone(b)
	copy(want[api.MaxBytes-4:], []byte{7, 0, 0, 0})
	checkApply(t, b, api.MaxBytes-4, api.RPc32, reloc.Place{S: 7}, want, api.OK)
	checkApply(t, b, api.MaxBytes-3, api.RPc32, reloc.Place{S: 7}, nil, api.ErrReloc)
	checkApply(t, numbered(api.MaxBytes+1), 0, api.RPc32, reloc.Place{S: 7}, nil, api.ErrSize)
}

// TestP2003Order: each error ahead of those behind it.
func TestP2003Order(t *testing.T) {
	great, some := make([]byte, api.MaxBytes+1), make([]byte, 8)
	const none, outside = api.RRelative, 99
	wide, unfit := reloc.Place{Tp: far + 1}, reloc.Place{S: 1 << 40, G: 1 << 40}
	for _, c := range []struct {
		b        []byte
		at, kind int
		p        reloc.Place
		e        api.Errno
	}{
		{great, -1, none, wide, api.ErrSize},
		{great, -1, api.RPc32, unfit, api.ErrSize},
		{great, 0, api.RPc32, wide, api.ErrSize},
		{great, 0, none, unfit, api.ErrSize},
		{some, outside, none, wide, api.ErrReloc},
		{some, 0, none, wide, api.ErrReloc},
		{some, 0, none, unfit, api.ErrReloc},
		{some, outside, api.RPc32, wide, api.ErrRange},
		{some, 0, api.RPc32, reloc.Place{S: 1 << 40, Tp: far + 1}, api.ErrRange},
		{some, outside, api.RPc32, unfit, api.ErrReloc},
		{some, 0, api.RPc32, unfit, api.ErrOverflow},
	} {
		checkApply(t, c.b, c.at, c.kind, c.p, nil, c.e)
	}
}
