package reloc_test

import (
	"math"
	"testing"

	"gangway/api"
	"gangway/reloc"
)

func TestP2002Values(t *testing.T) {
	p := reloc.Place{S: 10000, A: 3000, P: 500, G: 70000, Tp: 20}
	for kind, want := range map[int]int{
		api.R64: 13000, api.RPc32: 12500, api.RPlt32: 12500, api.R32: 13000, api.R32S: 13000,
		api.RGotPcrel: 72500, api.RGotTpoff: 72500, api.RTpoff32: 12980, api.RDtpoff32: 12980,
	} {
		checkValue(t, kind, p, want, api.OK)
	}
	checkValue(t, api.RPc32, reloc.Place{S: 4200, A: -4, P: 4101}, 95, api.OK)
	checkValue(t, api.RTpoff32, reloc.Place{S: 100, Tp: 132}, -32, api.OK)
}

// one is a place with one number alone that is not 0.
func one(field, n int) reloc.Place {
	l := [5]int{}
	l[field] = n
	return reloc.Place{S: l[0], A: l[1], P: l[2], G: l[3], Tp: l[4]}
}

// TestP2002Range: each of the numbers may not be too great, whether the type asks for it or not.
func TestP2002Range(t *testing.T) {
	for _, kind := range worked() {
		for field := range 5 {
			for _, n := range []int{far + 1, -far - 1, far + 2, math.MaxInt, math.MinInt, math.MinInt + 1, 1 << 61, -1 << 61} {
				checkValue(t, kind, one(field, n), 0, api.ErrRange)
			}
			for _, n := range []int{far, -far, far - 1, 1 - far} {
				want, _ := modelValue(kind, one(field, n))
				checkValue(t, kind, one(field, n), want, api.OK)
			}
		}
	}
}

// TestP2002Great: sums of the greatest numbers that may be are as they truly are.
func TestP2002Great(t *testing.T) {
	const all = far
	high := reloc.Place{S: all, A: all, P: -all, G: all, Tp: -all}
	low := reloc.Place{S: -all, A: -all, P: all, G: -all, Tp: all}
	for _, kind := range worked() {
		want := 3 * all
		if kind == api.R64 || kind == api.R32 || kind == api.R32S {
			want = 2 * all
		}
		checkValue(t, kind, high, want, api.OK)
		checkValue(t, kind, low, -want, api.OK)
	}
}

// TestP2002TypeFirst: a type that is none is ErrReloc, whatever the place is.
func TestP2002TypeFirst(t *testing.T) {
	for _, kind := range append(named(), strange()...) {
		for _, n := range edges() {
			checkValue(t, kind, one(0, n), 0, api.ErrReloc)
			checkFits(t, kind, n, false, api.ErrReloc)
		}
	}
}

func TestP2002Edges(t *testing.T) {
	for _, kind := range worked() {
		for _, n := range edges() {
			for field := range 5 {
				want, e := modelValue(kind, one(field, n))
				checkValue(t, kind, one(field, n), want, e)
			}
			is, e := modelFits(kind, n)
			checkFits(t, kind, n, is, e)
		}
	}
}

func TestP2002Fits(t *testing.T) {
	for _, kind := range worked() {
		for _, c := range []struct {
			v           int
			signed, low bool
		}{
			{0, true, true}, {1, true, true}, {-1, true, false},
			{1<<31 - 1, true, true}, {1 << 31, false, true},
			{-1 << 31, true, false}, {-1<<31 - 1, false, false},
			{1<<32 - 1, false, true}, {1 << 32, false, false},
			{-1 << 32, false, false}, {math.MaxInt, false, false}, {math.MinInt, false, false},
		} {
			want := c.signed
			switch kind {
			case api.R64:
				want = true
			case api.R32:
				want = c.low
			}
			checkFits(t, kind, c.v, want, api.OK)
		}
	}
}

// TestP2002FitsAnything: what a place can't come to is asked for, too.
func TestP2002FitsAnything(t *testing.T) {
	for _, v := range []int{far + 1, 3 * far, math.MaxInt, math.MinInt} {
		checkFits(t, api.R64, v, true, api.OK)
		checkFits(t, api.RPc32, v, false, api.OK)
	}
}
