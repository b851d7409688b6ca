package alu_test

import (
	"math"
	"math/big"
	"testing"

	"gangway/alu"
	"gangway/api"
)

func TestP201TrimAndExtendExamples(t *testing.T) {
	for _, c := range []struct {
		x            uint64
		size         int
		trim, extend uint64
	}{
		{0, 1, 0, 0},
		{127, 1, 127, 127},
		{128, 1, 128, math.MaxUint64 - 127},
		{255, 1, 255, math.MaxUint64},
		{256, 1, 0, 0},
		{0x1ff, 1, 255, math.MaxUint64},
		{0xff7f, 1, 127, 127},
		{1<<31 - 1, 4, 1<<31 - 1, 1<<31 - 1},
		{1 << 31, 4, 1 << 31, 0xffffffff80000000},
		{1<<32 - 1, 4, 1<<32 - 1, math.MaxUint64},
		{1 << 32, 4, 0, 0},
		{0xffffffff00000001, 4, 1, 1},
		{1 << 63, 8, 1 << 63, 1 << 63},
		{math.MaxUint64, 8, math.MaxUint64, math.MaxUint64},
		{5, 8, 5, 5},
	} {
		if x, e := alu.Trim(c.x, c.size); x != c.trim || e != api.OK {
			t.Errorf("Trim(%#x, %d): %#x, %d; want %#x", c.x, c.size, x, e, c.trim)
		}
		if x, e := alu.Extend(c.x, c.size); x != c.extend || e != api.OK {
			t.Errorf("Extend(%#x, %d): %#x, %d; want %#x", c.x, c.size, x, e, c.extend)
		}
	}
}

func TestP201TrimAndExtend(t *testing.T) {
	for _, size := range sizes() {
		for _, x := range values(size) {
			for _, d := range dirty(size) {
				if got, e := alu.Trim(x|d, size); e != api.OK || got != plain(x, size).Uint64() {
					t.Errorf("Trim(%#x, %d): %#x, %d", x|d, size, got, e)
				}
				if got, e := alu.Extend(x|d, size); e != api.OK || int64(got) != signed(x|d, size).Int64() {
					t.Errorf("Extend(%#x, %d): %#x, %d", x|d, size, got, e)
				}
			}
		}
	}
}

func TestP201NoSize(t *testing.T) {
	for _, size := range noSizes() {
		for _, x := range few(8) {
			if got, e := alu.Trim(x, size); got != 0 || e != api.ErrArg {
				t.Errorf("Trim(%#x, %d): %#x, %d", x, size, got, e)
			}
			if got, e := alu.Extend(x, size); got != 0 || e != api.ErrArg {
				t.Errorf("Extend(%#x, %d): %#x, %d", x, size, got, e)
			}
		}
	}
}

func TestP202AddExamples(t *testing.T) {
	for _, c := range []struct {
		a, b  uint64
		carry bool
		size  int
		want  answer
	}{
		{255, 1, false, 1, answer{0, api.Flags{C: true, Z: true, P: true}, 0}},
		{127, 1, false, 1, answer{128, api.Flags{S: true, O: true}, 0}},
		{0, 0, false, 1, answer{0, api.Flags{Z: true, P: true}, 0}},
		{0, 0, true, 1, answer{1, api.Flags{}, 0}},
		{255, 0, true, 1, answer{0, api.Flags{C: true, Z: true, P: true}, 0}},
		{255, 255, true, 1, answer{255, api.Flags{C: true, S: true, P: true}, 0}},
		{127, 0, true, 1, answer{128, api.Flags{S: true, O: true}, 0}},
		{128, 128, false, 1, answer{0, api.Flags{C: true, Z: true, P: true, O: true}, 0}},
		{128, 127, true, 1, answer{0, api.Flags{C: true, Z: true, P: true}, 0}},
		{128, 255, true, 1, answer{128, api.Flags{C: true, S: true}, 0}},
		{1<<31 - 1, 1, false, 4, answer{1 << 31, api.Flags{S: true, P: true, O: true}, 0}},
		{1<<32 - 1, 1, false, 4, answer{0, api.Flags{C: true, Z: true, P: true}, 0}},
		{1<<63 - 1, 0, true, 8, answer{1 << 63, api.Flags{S: true, P: true, O: true}, 0}},
		{math.MaxUint64, 0, true, 8, answer{0, api.Flags{C: true, Z: true, P: true}, 0}},
		{math.MaxUint64, math.MaxUint64, true, 8, answer{math.MaxUint64, api.Flags{C: true, S: true, P: true}, 0}},
		{1 << 63, 1 << 63, false, 8, answer{0, api.Flags{C: true, Z: true, P: true, O: true}, 0}},
		{1 << 63, 1<<63 - 1, true, 8, answer{0, api.Flags{C: true, Z: true, P: true}, 0}},
	} {
		same(t, of(alu.Add(c.a, c.b, c.carry, c.size)), c.want, "Add", c.a, c.b, c.carry, c.size)
	}
}

// trueSum, trueDifference: the answers as true numbers tell them.
func trueSum(a, b uint64, in int64, size int) answer {
	in1 := big.NewInt(in)
	p := new(big.Int).Add(plain(a, size), plain(b, size))
	s := new(big.Int).Add(signed(a, size), signed(b, size))
	p.Add(p, in1)
	s.Add(s, in1)
	r := low(p, size)
	return answer{r, flagged(r, size, p.Cmp(power(8*size)) >= 0, over(s, size)), api.OK}
}

func trueDifference(a, b uint64, in int64, size int) answer {
	in1 := big.NewInt(in)
	p := new(big.Int).Sub(plain(a, size), plain(b, size))
	s := new(big.Int).Sub(signed(a, size), signed(b, size))
	p.Sub(p, in1)
	s.Sub(s, in1)
	r := low(p, size)
	return answer{r, flagged(r, size, p.Sign() < 0, over(s, size)), api.OK}
}

func TestP202Add(t *testing.T) {
	for _, size := range sizes() {
		for _, a := range values(size) {
			for _, b := range values(size) {
				same(t, of(alu.Add(a, b, false, size)), trueSum(a, b, 0, size), "Add", a, b, false, size)
				same(t, of(alu.Add(a, b, true, size)), trueSum(a, b, 1, size), "Add", a, b, true, size)
			}
		}
	}
}

func TestP203SubExamples(t *testing.T) {
	for _, c := range []struct {
		a, b   uint64
		borrow bool
		size   int
		want   answer
	}{
		{0, 1, false, 4, answer{4294967295, api.Flags{C: true, S: true, P: true}, 0}},
		{0, 0, false, 1, answer{0, api.Flags{Z: true, P: true}, 0}},
		{0, 0, true, 1, answer{255, api.Flags{C: true, S: true, P: true}, 0}},
		{5, 5, true, 1, answer{255, api.Flags{C: true, S: true, P: true}, 0}},
		{0, 255, true, 1, answer{0, api.Flags{C: true, Z: true, P: true}, 0}},
		{255, 255, true, 1, answer{255, api.Flags{C: true, S: true, P: true}, 0}},
		{128, 1, false, 1, answer{127, api.Flags{O: true}, 0}},
		{128, 0, true, 1, answer{127, api.Flags{O: true}, 0}},
		{127, 128, false, 1, answer{255, api.Flags{C: true, S: true, P: true, O: true}, 0}},
		{127, 128, true, 1, answer{254, api.Flags{C: true, S: true, O: true}, 0}},
		{127, 255, true, 1, answer{127, api.Flags{C: true}, 0}},
		{1 << 31, 1, false, 4, answer{1<<31 - 1, api.Flags{P: true, O: true}, 0}},
		{0, 1 << 31, false, 4, answer{1 << 31, api.Flags{C: true, S: true, P: true, O: true}, 0}},
		{1 << 63, 0, true, 8, answer{1<<63 - 1, api.Flags{P: true, O: true}, 0}},
		{0, math.MaxUint64, true, 8, answer{0, api.Flags{C: true, Z: true, P: true}, 0}},
		{0, 1 << 63, true, 8, answer{1<<63 - 1, api.Flags{C: true, P: true}, 0}},
	} {
		same(t, of(alu.Sub(c.a, c.b, c.borrow, c.size)), c.want, "Sub", c.a, c.b, c.borrow, c.size)
	}
}

func TestP203Sub(t *testing.T) {
	for _, size := range sizes() {
		for _, a := range values(size) {
			for _, b := range values(size) {
				same(t, of(alu.Sub(a, b, false, size)), trueDifference(a, b, 0, size), "Sub", a, b, false, size)
				same(t, of(alu.Sub(a, b, true, size)), trueDifference(a, b, 1, size), "Sub", a, b, true, size)
			}
		}
	}
}

func TestP207MulExamples(t *testing.T) {
	both := api.Flags{C: true, O: true}
	with := func(f api.Flags) api.Flags { f.C, f.O = both.C, both.O; return f }
	for _, c := range []struct {
		a, b uint64
		size int
		want answer
	}{
		{3, 5, 1, answer{15, api.Flags{P: true}, 0}},
		{0, 255, 1, answer{0, api.Flags{Z: true, P: true}, 0}},
		{255, 255, 1, answer{1, api.Flags{}, 0}},
		{255, 128, 1, answer{128, with(api.Flags{S: true}), 0}},
		{128, 128, 1, answer{0, with(api.Flags{Z: true, P: true}), 0}},
		{128, 1, 1, answer{128, api.Flags{S: true}, 0}},
		{127, 127, 1, answer{1, with(api.Flags{}), 0}},
		{127, 128, 1, answer{128, with(api.Flags{S: true}), 0}},
		{64, 2, 1, answer{128, with(api.Flags{S: true}), 0}},
		{64, 254, 1, answer{128, api.Flags{S: true}, 0}},
		{1 << 16, 1 << 15, 4, answer{1 << 31, with(api.Flags{S: true, P: true}), 0}},
		{1 << 16, 1<<32 - 1<<15, 4, answer{1 << 31, api.Flags{S: true, P: true}, 0}},
		{1 << 31, 1<<32 - 1, 4, answer{1 << 31, with(api.Flags{S: true, P: true}), 0}},
		{1 << 31, 1 << 31, 4, answer{0, with(api.Flags{Z: true, P: true}), 0}},
		{1 << 63, 2, 8, answer{0, with(api.Flags{Z: true, P: true}), 0}},
		{1 << 63, 1, 8, answer{1 << 63, api.Flags{S: true, P: true}, 0}},
		{1 << 63, math.MaxUint64, 8, answer{1 << 63, with(api.Flags{S: true, P: true}), 0}},
		{1 << 63, 1 << 63, 8, answer{0, with(api.Flags{Z: true, P: true}), 0}},
		{1<<63 - 1, math.MaxUint64, 8, answer{1<<63 + 1, api.Flags{S: true}, 0}},
		{1<<63 - 1, 1<<63 - 1, 8, answer{1, with(api.Flags{}), 0}},
		{1 << 32, 1 << 32, 8, answer{0, with(api.Flags{Z: true, P: true}), 0}},
		{math.MaxUint64, math.MaxUint64, 8, answer{1, api.Flags{}, 0}},
	} {
		same(t, of(alu.Mul(c.a, c.b, c.size)), c.want, "Mul", c.a, c.b, c.size)
	}
}

func TestP207Mul(t *testing.T) {
	for _, size := range sizes() {
		for _, a := range values(size) {
			for _, b := range values(size) {
				n := new(big.Int).Mul(signed(a, size), signed(b, size))
				r := low(n, size)
				same(t, of(alu.Mul(a, b, size)), answer{r, flagged(r, size, over(n, size), over(n, size)), api.OK}, "Mul", a, b, size)
			}
		}
	}
}

// TestP202BitsAbove: of Add, Sub and Mul (P2.2, P2.3, P2.7) bits above the size's count for nothing.
func TestP202BitsAbove(t *testing.T) {
	for _, size := range []int{1, 4} {
		for _, a := range few(size) {
			for _, b := range few(size) {
				for _, d := range dirty(size) {
					for _, d2 := range dirty(size) {
						a0, b0 := plain(a, size).Uint64(), plain(b, size).Uint64()
						for _, in := range []bool{false, true} {
							same(t, of(alu.Add(a|d, b|d2, in, size)), of(alu.Add(a0, b0, in, size)), "Add", a|d, b|d2, in, size)
							same(t, of(alu.Sub(a|d, b|d2, in, size)), of(alu.Sub(a0, b0, in, size)), "Sub", a|d, b|d2, in, size)
						}
						same(t, of(alu.Mul(a|d, b|d2, size)), of(alu.Mul(a0, b0, size)), "Mul", a|d, b|d2, size)
					}
				}
			}
		}
	}
}

// TestP202NoSize: so of Sub and Mul (P2.3, P2.7).
func TestP202NoSize(t *testing.T) {
	for _, size := range noSizes() {
		for _, a := range few(8) {
			for _, in := range []bool{false, true} {
				same(t, of(alu.Add(a, 1, in, size)), refused(), "Add", a, 1, in, size)
				same(t, of(alu.Sub(a, 1, in, size)), refused(), "Sub", a, 1, in, size)
			}
			same(t, of(alu.Mul(a, 3, size)), refused(), "Mul", a, 3, size)
		}
	}
}
