package ehframe_test

import (
	"math"
	"slices"
	"testing"

	"gangway/api"
	"gangway/cfa"
	"gangway/ehframe"
)

const (
	mostRows = api.MaxRows
	mostOps  = api.MaxRows - 8
)

func TestP1403MayBe(t *testing.T) {
	checkCheck(t, nil, nil, api.OK)
	for _, enc := range encodings() {
		checkCheck(t, cies(usual(enc)), nil, api.OK)
		checkCheck(t, cies(usual(enc)), fdes(fde(0, 0, 0)), api.OK)
		// Whether pointers fit is asked by Write.
		checkCheck(t, cies(usual(enc)), fdes(fde(0, -far, api.MaxBytes), fde(0, far, 0)), api.OK)
	}
	program := ops(nop(), advance(1), defOffset(16), offset(6, -16), advance(4), nop())
	checkCheck(t, cies(usual(27), usual(0)), fdes(fde(1, 5, 5, program...), fde(0, 5, 5, program...)), api.OK)
}

func TestP1403Sizes(t *testing.T) {
	// What else is wrong does not count.
	wrong := ehframe.Cie{Enc: 13}
	checkCheck(t, slices.Repeat(cies(usual(27)), mostRows), nil, api.OK)
	checkCheck(t, slices.Repeat(cies(wrong), mostRows+1), nil, api.ErrSize)
	checkCheck(t, slices.Repeat(cies(usual(27)), mostRows+1), nil, api.ErrSize)
	checkCheck(t, cies(usual(27)), slices.Repeat(fdes(fde(0, 1, 1)), mostRows), api.OK)
	checkCheck(t, cies(usual(27)), slices.Repeat(fdes(fde(0, 1, 1)), mostRows+1), api.ErrSize)
	checkCheck(t, nil, slices.Repeat(fdes(fde(0, 1, 1)), mostRows+1), api.ErrSize)

	full := ehframe.Cie{Enc: 27, Initial: usualWith(nops(mostOps - 2)...)}
	over := ehframe.Cie{Enc: 27, Initial: usualWith(nops(mostOps - 1)...)}
	checkCheck(t, cies(full), nil, api.OK)
	checkCheck(t, cies(over), nil, api.ErrSize)
	checkCheck(t, cies(wrong, over), fdes(fde(9, far+1, -1)), api.ErrSize)
	checkCheck(t, cies(full), fdes(fde(0, 0, 0, nops(mostOps)...)), api.OK)
	checkCheck(t, cies(full), fdes(fde(0, 0, 0, nops(mostOps+1)...)), api.ErrSize)
	checkCheck(t, cies(wrong), fdes(fde(9, far+1, -1), fde(7, 0, 0, nops(mostOps+1)...)), api.ErrSize)
	checkCheck(t, cies(usual(27)), fdes(fde(0, 0, 0, nops(mostRows)...)), api.ErrSize)
}

func TestP1403Numbers(t *testing.T) {
	unusual := ehframe.Cie{Enc: 27}
	for _, enc := range []int{5, 8, 13, 15, 21, 29, 32, 33, 47, 53, 64, 80, 128, 155, 254, ehframe.Omit, 256, 256 + 27, -1, -16, -229, math.MinInt, math.MaxInt} {
		checkCheck(t, cies(usual(enc)), nil, api.ErrFrame)
		checkCheck(t, cies(unusual, usual(27), usual(enc)), nil, api.ErrFrame)
	}
	right := fde(0, 0, 0)
	for _, f := range []ehframe.Fde{
		fde(-1, 0, 0), fde(2, 0, 0), fde(math.MaxInt, 0, 0), fde(math.MinInt, 0, 0),
		fde(1, far+1, 0), fde(1, -far-1, 0), fde(1, math.MaxInt, 0), fde(1, math.MinInt, 0),
		fde(1, 0, -1), fde(1, 0, api.MaxBytes+1), fde(1, 0, math.MaxInt), fde(1, 0, math.MinInt),
	} {
		checkCheck(t, cies(usual(27), usual(0)), fdes(right, f), api.ErrFrame)
		checkCheck(t, cies(usual(27), usual(0)), fdes(f, right), api.ErrFrame)
		// Ops that may not be come behind.
		checkCheck(t, cies(unusual, usual(0)), fdes(fde(0, 0, 0, recall()), f), api.ErrFrame)
	}
	checkCheck(t, nil, fdes(right), api.ErrFrame)
	checkCheck(t, nil, fdes(fde(-1, 0, 0)), api.ErrFrame)
	checkCheck(t, cies(usual(27), usual(0)), fdes(fde(1, far, 0), fde(1, -far, 0), fde(0, 0, api.MaxBytes)), api.OK)
}

func TestP1403Ops(t *testing.T) {
	for _, initial := range [][]cfa.Op{
		nil, nops(3), ops(offset(16, -8)), ops(defOffset(8)), usualWith(advance(0)), usualWith(advance(1)), usualWith(recall()),
		usualWith(cfa.Op{Kind: 11}), usualWith(cfa.Op{Kind: cfa.Restore, R: 3}), usualWith(cfa.Op{Kind: cfa.Remember}), usualWith(offset(3, 4)), ops(defCfa(17, 8)),
	} {
		checkCheck(t, cies(ehframe.Cie{Enc: 27, Initial: initial}), nil, api.ErrCfa)
		checkCheck(t, cies(usual(0), ehframe.Cie{Enc: 27, Initial: initial}), fdes(fde(0, 0, 0)), api.ErrCfa)
	}
	for _, l := range [][]cfa.Op{
		ops(recall()), ops(advance(11)), ops(advance(5), advance(6)), ops(advance(-1)), ops(cfa.Op{Kind: -1}), ops(cfa.Op{Kind: cfa.Nop, N: 1}), ops(offset(6, 7)), ops(sameValue(17)),
	} {
		checkCheck(t, cies(usual(0)), fdes(fde(0, 0, 10, l...)), api.ErrCfa)
		checkCheck(t, cies(usual(0)), fdes(fde(0, 0, 10), fde(0, 0, 10, l...)), api.ErrCfa)
	}
	// The ops are done behind the Initial of the FDE's own CIE, in its own size.
	checkCheck(t, cies(usual(0)), fdes(fde(0, 0, 10, advance(10)), fde(0, 0, 11, advance(11))), api.OK)
	checkCheck(t, cies(usual(0)), fdes(fde(0, 0, 11, advance(11)), fde(0, 0, 10, advance(11))), api.ErrCfa)
}
