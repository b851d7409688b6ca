package alu_test

import (
	"math"
	"testing"

	"gangway/alu"
	"gangway/api"
)

// TestP1NothingPanics: all calls at all arguments, the wild ones too; with a size, an op or a count that is none the answers are zero.
func TestP1NothingPanics(t *testing.T) {
	wild := append(append(noSizes(), sizes()...), api.And, api.Test, api.Or, api.Xor, api.Inc, api.Dec, api.Neg, api.Not, api.Shl, api.Shr, api.Sar, 31, 63, 65, 255, 256)
	all := api.Flags{C: true, P: true, Z: true, S: true, O: true}
	for _, a := range []uint64{0, 1, 1 << 31, 1 << 63, math.MaxUint64} {
		alu.Unpack(a)
		for _, size := range wild {
			alu.Cond(size, all)
			trim, e1 := alu.Trim(a, size)
			extend, e2 := alu.Extend(a, size)
			if e1 != e2 || e1 != api.OK && (trim != 0 || extend != 0) {
				t.Errorf("Trim, Extend(%#x, %d): %#x, %d, %#x, %d", a, size, trim, e1, extend, e2)
			}
			for _, got := range []answer{of(alu.Add(a, a, true, size)), of(alu.Sub(a, a, true, size)), of(alu.Mul(a, a, size))} {
				if got.e != e1 || got.e != api.OK && got != refused() {
					t.Errorf("size %d: %+v", size, got)
				}
			}
			for _, op := range wild {
				for _, got := range []answer{of(alu.Logic(op, a, a, size)), of(alu.One(op, a, all, size))} {
					if got.e != api.OK && got != refused() {
						t.Errorf("op %d, size %d: %+v", op, size, got)
					}
				}
				for _, count := range wild {
					if got := of(alu.Shift(op, a, count, all, size)); got.e != api.OK && got != refused() {
						t.Errorf("op %d, count %d, size %d: %+v", op, count, size, got)
					}
				}
			}
		}
	}
}

// TestP1AnswersArePlain: all bits above the size's are 0.
func TestP1AnswersArePlain(t *testing.T) {
	for _, size := range []int{1, 4} {
		for _, a := range []uint64{0, 1, 1<<(8*size-1) - 1, 1 << (8*size - 1), math.MaxUint64, 0x8123456789abcdef} {
			for _, b := range []uint64{0, 1, math.MaxUint64, 0xfedcba9876543210} {
				list := []answer{of(alu.Add(a, b, true, size)), of(alu.Sub(a, b, true, size)), of(alu.Mul(a, b, size))}
				for op := 0; op <= api.LastOp; op++ {
					list = append(list, of(alu.Logic(op, a, b, size)), of(alu.One(op, a, api.Flags{}, size)))
					for _, count := range []int{0, 1, 7, 8, 31, 32} {
						list = append(list, of(alu.Shift(op, a, count, api.Flags{}, size)))
					}
				}
				for _, got := range list {
					if got.r>>(8*size) != 0 {
						t.Errorf("of %#x, %#x, size %d: %#x", a, b, size, got.r)
					}
				}
			}
		}
	}
}
