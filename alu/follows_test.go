package alu_test

import (
	"math"
	"math/big"
	"testing"

	"gangway/alu"
	"gangway/api"
)

func holds(t *testing.T, c int, f api.Flags) bool {
	t.Helper()
	is, e := alu.Cond(c, f)
	if e != api.OK {
		t.Errorf("Cond(%d, %+v): %d", c, f, e)
	}
	return is
}

func TestP210Order(t *testing.T) {
	for _, size := range sizes() {
		for _, a := range values(size) {
			for _, b := range values(size) {
				_, f, e := alu.Sub(a, b, false, size)
				p, s := plain(a, size).Cmp(plain(b, size)), signed(a, size).Cmp(signed(b, size))
				for _, x := range []struct {
					c    int
					want bool
				}{{2, p < 0}, {6, p <= 0}, {12, s < 0}, {14, s <= 0}, {4, p == 0}} {
					if e != api.OK || holds(t, x.c, f) != x.want || holds(t, x.c+1, f) == x.want {
						t.Errorf("condition %d behind Sub(%#x, %#x, false, %d): want %v", x.c, a, b, size, x.want)
					}
				}
			}
		}
	}
}

func TestP211InPieces(t *testing.T) {
	type call func(a, b uint64, in bool, size int) (uint64, api.Flags, api.Errno)
	for name, sum := range map[string]call{"Add": alu.Add, "Sub": alu.Sub} {
		for _, a := range values(8) {
			for _, b := range values(8) {
				for _, in := range []bool{false, true} {
					lower, f, e := sum(a&math.MaxUint32, b&math.MaxUint32, in, 4)
					upper, g, e2 := sum(a>>32, b>>32, f.C, 4)
					whole, h, e3 := sum(a, b, in, 8)
					if e != 0 || e2 != 0 || e3 != 0 || upper<<32|lower != whole || g.C != h.C || g.S != h.S || g.O != h.O {
						t.Errorf("%s(%#x, %#x, %v): %#x, %#x, %+v; whole %#x, %+v", name, a, b, in, upper, lower, g, whole, h)
					}
				}
			}
		}
	}
}

func TestP212ThereAndBack(t *testing.T) {
	for _, size := range sizes() {
		for _, a := range values(size) {
			want := plain(a, size).Uint64()
			for _, b := range values(size) {
				sum, _, _ := alu.Add(a, b, false, size)
				if back, _, e := alu.Sub(sum, b, false, size); back != want || e != api.OK {
					t.Errorf("Add and Sub of %#x and %#x, size %d: %#x", a, b, size, back)
				}
			}
			for _, op := range []int{api.Neg, api.Not} {
				once, _, _ := alu.One(op, a, api.Flags{}, size)
				if twice, _, e := alu.One(op, once, api.Flags{}, size); twice != want || e != api.OK {
					t.Errorf("One(%d) twice of %#x, size %d: %#x", op, a, size, twice)
				}
			}
			not, _, _ := alu.One(api.Not, a, api.Flags{}, size)
			more, _, _ := alu.Add(not, 1, false, size)
			if neg, _, e := alu.One(api.Neg, a, api.Flags{}, size); neg != more || e != api.OK {
				t.Errorf("Not and 1 of %#x, size %d: %#x; Neg: %#x", a, size, more, neg)
			}
		}
	}
}

func TestP213PowersOfTwo(t *testing.T) {
	for _, size := range sizes() {
		for _, a := range values(size) {
			for n := range 8 * size {
				shl, _, e := alu.Shift(api.Shl, a, n, api.Flags{}, size)
				if product, _, e2 := alu.Mul(a, 1<<n, size); n <= 8*size-2 && (shl != product || e != 0 || e2 != 0) {
					t.Errorf("Shl(%#x, %d), size %d: %#x; Mul: %#x", a, n, size, shl, product)
				}
				// Div of big numbers rounds down where what divides is above 0.
				shr, _, e := alu.Shift(api.Shr, a, n, api.Flags{}, size)
				if want := new(big.Int).Div(plain(a, size), power(n)); shr != want.Uint64() || e != 0 {
					t.Errorf("Shr(%#x, %d), size %d: %#x; want %v", a, n, size, shr, want)
				}
				sar, _, e := alu.Shift(api.Sar, a, n, api.Flags{}, size)
				if want := new(big.Int).Div(signed(a, size), power(n)); sar != low(want, size) || e != 0 {
					t.Errorf("Sar(%#x, %d), size %d: %#x; want %v", a, n, size, sar, want)
				}
			}
		}
	}
}

func TestP214UnpackOfPack(t *testing.T) {
	for _, f := range allFlags() {
		if got := alu.Unpack(alu.Pack(f)); got != f {
			t.Errorf("Unpack(Pack(%+v)): %+v", f, got)
		}
	}
}

func TestP214ExtendOfTrim(t *testing.T) {
	for _, size := range sizes() {
		for _, x := range append(values(size), values(8)...) {
			trim, _ := alu.Trim(x, size)
			once, e := alu.Extend(x, size)
			if got, e2 := alu.Extend(trim, size); got != once || e != 0 || e2 != 0 {
				t.Errorf("Extend(Trim(%#x), %d): %#x; Extend: %#x", x, size, got, once)
			}
		}
	}
}

func TestP214WhicheverFirst(t *testing.T) {
	for _, size := range sizes() {
		for _, a := range values(size) {
			for _, b := range values(size) {
				for _, in := range []bool{false, true} {
					same(t, of(alu.Add(a, b, in, size)), of(alu.Add(b, a, in, size)), "Add", a, b, in, size)
				}
				same(t, of(alu.Mul(a, b, size)), of(alu.Mul(b, a, size)), "Mul", a, b, size)
			}
		}
	}
}
