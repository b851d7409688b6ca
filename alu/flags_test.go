package alu_test

import (
	"math"
	"testing"

	"gangway/alu"
	"gangway/api"
)

// said: what the chapter says of a condition.
func said(c int, f api.Flags) bool {
	switch c {
	case 0:
		return f.O
	case 2:
		return f.C
	case 4:
		return f.Z
	case 6:
		return f.C || f.Z
	case 8:
		return f.S
	case 10:
		return f.P
	case 12:
		return f.S && !f.O || f.O && !f.S
	case 14:
		return f.Z || f.S && !f.O || f.O && !f.S
	}
	return !said(c-1, f)
}

func TestP208Cond(t *testing.T) {
	for c := range 16 {
		for _, f := range allFlags() {
			if is, e := alu.Cond(c, f); is != said(c, f) || e != api.OK {
				t.Errorf("Cond(%d, %+v): %v, %d", c, f, is, e)
			}
		}
	}
}

func TestP208CondExamples(t *testing.T) {
	for _, c := range []struct {
		c    int
		f    api.Flags
		want bool
	}{
		{0, api.Flags{O: true}, true},
		{1, api.Flags{O: true}, false},
		{2, api.Flags{C: true}, true},
		{3, api.Flags{}, true},
		{4, api.Flags{Z: true}, true},
		{5, api.Flags{Z: true}, false},
		{6, api.Flags{C: true}, true},
		{6, api.Flags{Z: true}, true},
		{7, api.Flags{C: true}, false},
		{7, api.Flags{S: true, O: true, P: true}, true},
		{8, api.Flags{S: true}, true},
		{9, api.Flags{}, true},
		{10, api.Flags{P: true}, true},
		{11, api.Flags{P: true}, false},
		{12, api.Flags{S: true}, true},
		{12, api.Flags{O: true}, true},
		{12, api.Flags{S: true, O: true}, false},
		{13, api.Flags{S: true, O: true}, true},
		{14, api.Flags{Z: true, S: true, O: true}, true},
		{14, api.Flags{O: true}, true},
		{15, api.Flags{}, true},
		{15, api.Flags{S: true}, false},
	} {
		if is, e := alu.Cond(c.c, c.f); is != c.want || e != api.OK {
			t.Errorf("Cond(%d, %+v): %v, %d", c.c, c.f, is, e)
		}
	}
}

func TestP208Refused(t *testing.T) {
	for _, c := range []int{math.MinInt, math.MinInt + 1, -1 << 32, -256, -17, -16, -15, -14, -3, -2, -1, 16, 17, 18, 30, 31, 32, 256, 1 << 32, 1<<32 + 4, math.MaxInt} {
		for _, f := range allFlags() {
			if is, e := alu.Cond(c, f); is || e != api.ErrArg {
				t.Errorf("Cond(%d, %+v): %v, %d", c, f, is, e)
			}
		}
	}
}

func TestP209Pack(t *testing.T) {
	for _, c := range []struct {
		f    api.Flags
		want uint64
	}{
		{api.Flags{}, 2},
		{api.Flags{C: true}, 2 + 1},
		{api.Flags{P: true}, 2 + 4},
		{api.Flags{Z: true}, 2 + 64},
		{api.Flags{S: true}, 2 + 128},
		{api.Flags{O: true}, 2 + 2048},
		{api.Flags{C: true, P: true, Z: true, S: true, O: true}, 1 + 2 + 4 + 64 + 128 + 2048},
	} {
		if x := alu.Pack(c.f); x != c.want {
			t.Errorf("Pack(%+v): %d; want %d", c.f, x, c.want)
		}
	}
}

func TestP209PackAll(t *testing.T) {
	for _, f := range allFlags() {
		want := uint64(2)
		for _, b := range []struct {
			is bool
			n  uint64
		}{{f.C, 1}, {f.P, 4}, {f.Z, 64}, {f.S, 128}, {f.O, 2048}} {
			if b.is {
				want += b.n
			}
		}
		if x := alu.Pack(f); x != want {
			t.Errorf("Pack(%+v): %d; want %d", f, x, want)
		}
	}
}

func TestP209UnpackBits(t *testing.T) {
	flags := map[int]api.Flags{0: {C: true}, 2: {P: true}, 6: {Z: true}, 7: {S: true}, 11: {O: true}}
	for k := range 64 {
		if f := alu.Unpack(1 << k); f != flags[k] {
			t.Errorf("Unpack(2^%d): %+v", k, f)
		}
		not := flags[k]
		want := api.Flags{C: !not.C, P: !not.P, Z: !not.Z, S: !not.S, O: !not.O}
		if f := alu.Unpack(^(uint64(1) << k)); f != want {
			t.Errorf("Unpack(all but 2^%d): %+v; want %+v", k, f, want)
		}
	}
	if f := alu.Unpack(0); f != (api.Flags{}) {
		t.Errorf("Unpack(0): %+v", f)
	}
}

// TestP209UnpackPassesBy: bits that are no flag's count for nothing, whatever flags stand among them.
func TestP209UnpackPassesBy(t *testing.T) {
	const flags = 1 | 4 | 64 | 128 | 2048
	for _, f := range allFlags() {
		x := alu.Pack(f)
		for _, other := range []uint64{0, 2, 8, 16, 32, 256, 512, 1024, 4096, 1 << 16, 1 << 32, 1 << 63, math.MaxUint64} {
			other &^= flags
			if got := alu.Unpack(x | other); got != f {
				t.Errorf("Unpack(%#x): %+v; want %+v", x|other, got, f)
			}
			if got := alu.Unpack(x&flags | other); got != f {
				t.Errorf("Unpack(%#x): %+v; want %+v", x&flags|other, got, f)
			}
		}
	}
}
