package alu_test

import (
	"math"
	"testing"

	"gangway/alu"
	"gangway/api"
)

func TestP204LogicExamples(t *testing.T) {
	for _, c := range []struct {
		op   int
		a, b uint64
		size int
		want answer
	}{
		{api.And, 12, 10, 1, answer{8, api.Flags{}, 0}},
		{api.Test, 12, 10, 1, answer{8, api.Flags{}, 0}},
		{api.Or, 12, 10, 1, answer{14, api.Flags{}, 0}},
		{api.Xor, 12, 10, 1, answer{6, api.Flags{P: true}, 0}},
		{api.Xor, 5, 5, 4, answer{0, api.Flags{Z: true, P: true}, 0}},
		{api.And, 0x1ff, 0x180, 1, answer{128, api.Flags{S: true}, 0}},
		{api.And, 0xf00, 0xf00, 1, answer{0, api.Flags{Z: true, P: true}, 0}},
		{api.Or, 1 << 31, 1 << 32, 4, answer{1 << 31, api.Flags{S: true, P: true}, 0}},
		{api.Or, 1 << 31, 1 << 32, 8, answer{3 << 31, api.Flags{P: true}, 0}},
		{api.Xor, math.MaxUint64, 1, 8, answer{math.MaxUint64 - 1, api.Flags{S: true}, 0}},
	} {
		same(t, of(alu.Logic(c.op, c.a, c.b, c.size)), c.want, "Logic", c.op, c.a, c.b, c.size)
	}
}

// bitByBit: the low bits of two numbers, each pair of them by what is said of the op.
func bitByBit(op int, a, b uint64, size int) uint64 {
	var r uint64
	for k := range 8 * size {
		x, y, is := a>>k&1 == 1, b>>k&1 == 1, false
		switch op {
		case api.And, api.Test:
			is = x && y
		case api.Or:
			is = x || y
		case api.Xor:
			is = x != y
		}
		if is {
			r |= 1 << k
		}
	}
	return r
}

func TestP204Logic(t *testing.T) {
	for _, op := range []int{api.And, api.Test, api.Or, api.Xor} {
		for _, size := range sizes() {
			for _, a := range values(size) {
				for _, b := range few(size) {
					for _, d := range dirty(size) {
						r := bitByBit(op, a, b, size)
						want := answer{r, flagged(r, size, false, false), api.OK}
						same(t, of(alu.Logic(op, a|d, b|d, size)), want, "Logic", op, a|d, b|d, size)
						same(t, of(alu.Logic(op, b, a|d, size)), want, "Logic", op, b, a|d, size)
					}
				}
			}
		}
	}
}

func TestP204Refused(t *testing.T) {
	for _, op := range otherOps(api.And, api.Test, api.Or, api.Xor) {
		for _, size := range append(noSizes(), sizes()...) {
			same(t, of(alu.Logic(op, 7, 5, size)), refused(), "Logic", op, 7, 5, size)
		}
	}
	for _, op := range []int{api.And, api.Test, api.Or, api.Xor} {
		for _, size := range noSizes() {
			same(t, of(alu.Logic(op, 7, 5, size)), refused(), "Logic", op, 7, 5, size)
		}
	}
}

func TestP205OneExamples(t *testing.T) {
	all := api.Flags{C: true, P: true, Z: true, S: true, O: true}
	for _, c := range []struct {
		op   int
		a    uint64
		old  api.Flags
		size int
		want answer
	}{
		{api.Inc, 255, api.Flags{C: true, O: true}, 1, answer{0, api.Flags{C: true, Z: true, P: true}, 0}},
		{api.Inc, 255, api.Flags{}, 1, answer{0, api.Flags{Z: true, P: true}, 0}},
		{api.Inc, 127, api.Flags{}, 1, answer{128, api.Flags{S: true, O: true}, 0}},
		{api.Inc, 1<<31 - 1, all, 4, answer{1 << 31, api.Flags{C: true, S: true, P: true, O: true}, 0}},
		{api.Inc, math.MaxUint64, api.Flags{}, 8, answer{0, api.Flags{Z: true, P: true}, 0}},
		{api.Dec, 0, api.Flags{}, 1, answer{255, api.Flags{S: true, P: true}, 0}},
		{api.Dec, 0, all, 1, answer{255, api.Flags{C: true, S: true, P: true}, 0}},
		{api.Dec, 1, all, 1, answer{0, api.Flags{C: true, Z: true, P: true}, 0}},
		{api.Dec, 128, api.Flags{}, 1, answer{127, api.Flags{O: true}, 0}},
		{api.Dec, 1 << 63, api.Flags{}, 8, answer{1<<63 - 1, api.Flags{P: true, O: true}, 0}},
		{api.Neg, 0, all, 1, answer{0, api.Flags{Z: true, P: true}, 0}},
		{api.Neg, 1, api.Flags{}, 1, answer{255, api.Flags{C: true, S: true, P: true}, 0}},
		{api.Neg, 128, api.Flags{}, 1, answer{128, api.Flags{C: true, S: true, O: true}, 0}},
		{api.Neg, 1 << 31, api.Flags{}, 4, answer{1 << 31, api.Flags{C: true, S: true, P: true, O: true}, 0}},
		{api.Neg, 1 << 63, api.Flags{}, 8, answer{1 << 63, api.Flags{C: true, S: true, P: true, O: true}, 0}},
		{api.Not, 0, api.Flags{C: true, O: true}, 1, answer{255, api.Flags{C: true, O: true}, 0}},
		{api.Not, 255, api.Flags{}, 1, answer{0, api.Flags{}, 0}},
		{api.Not, 0, all, 4, answer{1<<32 - 1, all, 0}},
		{api.Not, 1, all, 8, answer{math.MaxUint64 - 1, all, 0}},
	} {
		same(t, of(alu.One(c.op, c.a, c.old, c.size)), c.want, "One", c.op, c.a, c.old, c.size)
	}
}

func TestP205One(t *testing.T) {
	for _, size := range sizes() {
		for _, a := range values(size) {
			for _, d := range dirty(size) {
				for _, old := range someFlags() {
					inc, dec := trueSum(a, 1, 0, size), trueDifference(a, 1, 0, size)
					inc.f.C, dec.f.C = old.C, old.C
					same(t, of(alu.One(api.Inc, a|d, old, size)), inc, "Inc", a|d, old, size)
					same(t, of(alu.One(api.Dec, a|d, old, size)), dec, "Dec", a|d, old, size)
					same(t, of(alu.One(api.Neg, a|d, old, size)), trueDifference(0, a, 0, size), "Neg", a|d, old, size)
					turned := bitByBit(api.Xor, a, math.MaxUint64, size)
					same(t, of(alu.One(api.Not, a|d, old, size)), answer{turned, old, api.OK}, "Not", a|d, old, size)
				}
			}
		}
	}
}

func TestP205Refused(t *testing.T) {
	for _, old := range someFlags() {
		for _, op := range otherOps(api.Inc, api.Dec, api.Neg, api.Not) {
			for _, size := range append(noSizes(), sizes()...) {
				same(t, of(alu.One(op, 7, old, size)), refused(), "One", op, 7, old, size)
			}
		}
		for _, op := range []int{api.Inc, api.Dec, api.Neg, api.Not} {
			for _, size := range noSizes() {
				same(t, of(alu.One(op, 7, old, size)), refused(), "One", op, 7, old, size)
			}
		}
	}
}
