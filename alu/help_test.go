package alu_test

import (
	"math"
	"math/big"
	"testing"

	"gangway/api"
)

func sizes() []int { return []int{1, 4, 8} }

// noSizes: numbers that are no size, those beside one and those that are one in their low bits among them.
func noSizes() []int {
	return []int{math.MinInt, math.MinInt + 1, math.MinInt + 8, -1 << 32, -8, -4, -2, -1, 0, 2, 3, 5, 6, 7, 9, 10, 16, 32, 64, 256 + 1, 256 + 4, 1<<32 + 1, 1<<32 + 4, 1<<32 + 8, math.MaxInt - 1, math.MaxInt}
}

// values: of size 1 all of them; else both sides of 0, of the powers of 2 and of the ends, and some without a rule.
func values(size int) []uint64 {
	var l []uint64
	if size == 1 {
		for x := range uint64(256) {
			l = append(l, x)
		}
		return l
	}
	l = append(l, 0, 0x5a, 0xa5, 0x12345678, 0xdeadbeef, 3037000499, 3037000500, 46340, 46341)
	for k := range 8 * size {
		p := uint64(1) << k
		l = append(l, p-1, p, p+1, -p-1, -p)
	}
	if size == 8 {
		l = append(l, 0x0123456789abcdef, 0xfedcba9876543210)
	}
	return l
}

// few: values for tests that take them by threes, or with counts.
func few(size int) []uint64 {
	top := uint64(1) << (8*size - 1)
	return []uint64{0, 1, 2, 3, 127, 128, 129, 254, 255, 0x80000001, 0xaaaaaaaaaaaaaaaa, 0x5555555555555555, top - 2, top - 1, top, top + 1, top<<1 - 2, top<<1 - 1}
}

// dirty: bits above the size's that must not count.
func dirty(size int) []uint64 {
	if size == 8 {
		return []uint64{0}
	}
	above := ^uint64(0) << (8 * size)
	return []uint64{0, above, 0x123456789abcdef0 & above}
}

func power(k int) *big.Int { return new(big.Int).Lsh(big.NewInt(1), uint(k)) }

// plain, signed: what the low bits of a number are as true numbers.
func plain(x uint64, size int) *big.Int {
	return new(big.Int).Mod(new(big.Int).SetUint64(x), power(8*size))
}

func signed(x uint64, size int) *big.Int {
	n := plain(x, size)
	if n.Cmp(power(8*size-1)) >= 0 {
		n.Sub(n, power(8*size))
	}
	return n
}

// low: the low bits of a true number.
func low(n *big.Int, size int) uint64 {
	return new(big.Int).Mod(n, power(8*size)).Uint64()
}

// over: whether a true number is none of the signed ones of a size.
func over(n *big.Int, size int) bool {
	return n.Cmp(new(big.Int).Neg(power(8*size-1))) < 0 || n.Cmp(power(8*size-1)) >= 0
}

// flagged: c and o, with the flags of a result, which are counted bit by bit.
func flagged(r uint64, size int, c, o bool) api.Flags {
	ones := 0
	for k := range 8 {
		if r>>k&1 == 1 {
			ones++
		}
	}
	return api.Flags{C: c, O: o, Z: r == 0, S: r>>(8*size-1)&1 == 1, P: ones%2 == 0}
}

// allFlags: each way in which the five may stand.
func allFlags() []api.Flags {
	var l []api.Flags
	for k := range 32 {
		l = append(l, api.Flags{C: k&1 != 0, P: k&2 != 0, Z: k&4 != 0, S: k&8 != 0, O: k&16 != 0})
	}
	return l
}

// someFlags: none, all, and each alone.
func someFlags() []api.Flags {
	return []api.Flags{{}, {C: true, P: true, Z: true, S: true, O: true}, {C: true}, {P: true}, {Z: true}, {S: true}, {O: true}}
}

// otherOps: all ops, and numbers about them, that are not these.
func otherOps(these ...int) []int {
	l := []int{math.MinInt, math.MaxInt, 1<<32 + api.And, 1<<32 + api.Inc, 1<<32 + api.Shl, 256 + api.And, 256 + api.Inc, 256 + api.Shl}
	for op := -api.LastOp - 1; op <= api.LastOp+2; op++ {
		is := false
		for _, x := range these {
			is = is || x == op
		}
		if !is {
			l = append(l, op)
		}
	}
	return l
}

// answer: what the calls with flags answer, to be held against another one.
type answer struct {
	r uint64
	f api.Flags
	e api.Errno
}

func of(r uint64, f api.Flags, e api.Errno) answer { return answer{r, f, e} }

// refused: with an error number and flags are zero.
func refused() answer { return answer{e: api.ErrArg} }

func same(t *testing.T, got, want answer, what ...any) {
	t.Helper()
	if got != want {
		t.Errorf("%v: %+v; want %+v", what, got, want)
	}
}
