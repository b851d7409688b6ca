package alu_test

import (
	"math"
	"testing"

	"gangway/alu"
	"gangway/api"
)

func TestP206ShiftExamples(t *testing.T) {
	all := api.Flags{C: true, P: true, Z: true, S: true, O: true}
	for _, c := range []struct {
		op    int
		a     uint64
		count int
		size  int
		want  answer
	}{
		{api.Sar, 129, 1, 1, answer{192, api.Flags{C: true, S: true, P: true}, 0}},
		{api.Shl, 129, 9, 1, answer{0, api.Flags{Z: true, P: true}, 0}},
		{api.Shl, 129, 8, 1, answer{0, api.Flags{C: true, Z: true, P: true}, 0}},
		{api.Shl, 129, 7, 1, answer{128, api.Flags{S: true}, 0}},
		{api.Shl, 128, 1, 1, answer{0, api.Flags{C: true, Z: true, P: true, O: true}, 0}},
		{api.Shl, 64, 1, 1, answer{128, api.Flags{S: true, O: true}, 0}},
		{api.Shl, 192, 1, 1, answer{128, api.Flags{C: true, S: true}, 0}},
		{api.Shl, 192, 2, 1, answer{0, api.Flags{C: true, Z: true, P: true}, 0}},
		{api.Shl, 5, 32, 4, answer{5, all, 0}},
		{api.Shl, 5, 64, 4, answer{5, all, 0}},
		{api.Shl, 5, 33, 4, answer{10, api.Flags{P: true}, 0}},
		{api.Shl, 5, 32, 8, answer{5 << 32, api.Flags{P: true}, 0}},
		{api.Shl, 5, 64, 8, answer{5, all, 0}},
		{api.Shl, 1, 63, 8, answer{1 << 63, api.Flags{S: true, P: true}, 0}},
		{api.Shl, 3, 255, 8, answer{1 << 63, api.Flags{C: true, S: true, P: true}, 0}},
		{api.Shl, 3, 255, 4, answer{1 << 31, api.Flags{C: true, S: true, P: true}, 0}},
		{api.Shl, 0x1ff, 32, 1, answer{255, all, 0}},
		{api.Shr, 1<<63 + 1, 1, 8, answer{1 << 62, api.Flags{C: true, P: true, O: true}, 0}},
		{api.Shr, 129, 8, 1, answer{0, api.Flags{C: true, Z: true, P: true}, 0}},
		{api.Shr, 127, 8, 1, answer{0, api.Flags{Z: true, P: true}, 0}},
		{api.Shr, 255, 9, 1, answer{0, api.Flags{Z: true, P: true}, 0}},
		{api.Shr, 255, 31, 1, answer{0, api.Flags{Z: true, P: true}, 0}},
		{api.Shr, 0xffff, 1, 1, answer{127, api.Flags{C: true, O: true}, 0}},
		{api.Shr, 1 << 31, 31, 4, answer{1, api.Flags{}, 0}},
		{api.Shr, 1 << 32, 1, 4, answer{0, api.Flags{Z: true, P: true}, 0}},
		{api.Shr, 1 << 63, 63, 8, answer{1, api.Flags{}, 0}},
		{api.Sar, 128, 7, 1, answer{255, api.Flags{S: true, P: true}, 0}},
		{api.Sar, 128, 8, 1, answer{255, api.Flags{C: true, S: true, P: true}, 0}},
		{api.Sar, 128, 9, 1, answer{255, api.Flags{C: true, S: true, P: true}, 0}},
		{api.Sar, 128, 31, 1, answer{255, api.Flags{C: true, S: true, P: true}, 0}},
		{api.Sar, 127, 31, 1, answer{0, api.Flags{Z: true, P: true}, 0}},
		{api.Sar, 127, 7, 1, answer{0, api.Flags{C: true, Z: true, P: true}, 0}},
		{api.Sar, 1 << 31, 31, 4, answer{1<<32 - 1, api.Flags{S: true, P: true}, 0}},
		{api.Sar, 1 << 63, 63, 8, answer{math.MaxUint64, api.Flags{S: true, P: true}, 0}},
		{api.Sar, 5, 256 - 64, 8, answer{5, all, 0}},
		{api.Sar, 5, 0, 4, answer{5, all, 0}},
		{api.Shr, 1<<32 + 5, 0, 4, answer{5, all, 0}},
		{api.Shr, 0x1ff, 0, 1, answer{255, all, 0}},
	} {
		same(t, of(alu.Shift(c.op, c.a, c.count, all, c.size)), c.want, "Shift", c.op, c.a, c.count, c.size)
	}
}

// stepwise: a shift, a bit at a time, on a list of bits, the lowest one first.
func stepwise(op int, a uint64, count int, old api.Flags, size int) answer {
	n := count % 32
	if size == 8 {
		n = count % 64
	}
	if n == 0 {
		return answer{plain(a, size).Uint64(), old, api.OK}
	}
	list := make([]bool, 8*size)
	for k := range list {
		list[k] = a>>k&1 == 1
	}
	top := list[len(list)-1]
	out := false
	for range n {
		switch op {
		case api.Shl:
			out = list[len(list)-1]
			list = append([]bool{false}, list[:len(list)-1]...)
		case api.Shr:
			out = list[0]
			list = append(append([]bool{}, list[1:]...), false)
		case api.Sar:
			out = list[0]
			list = append(append([]bool{}, list[1:]...), top)
		}
	}
	var r uint64
	for k, is := range list {
		if is {
			r |= 1 << k
		}
	}
	o := op == api.Shl && list[len(list)-1] != out || op == api.Shr && top
	return answer{r, flagged(r, size, out, n == 1 && o), api.OK}
}

func TestP206Shift(t *testing.T) {
	old := api.Flags{C: true, Z: true}
	for _, op := range []int{api.Shl, api.Shr, api.Sar} {
		for _, size := range sizes() {
			list := few(size)
			if size == 1 {
				list = values(1)
			}
			for _, a := range list {
				for count := range 256 {
					same(t, of(alu.Shift(op, a, count, old, size)), stepwise(op, a, count, old, size), "Shift", op, a, count, size)
				}
			}
		}
	}
}

func TestP206OldFlagsAndBitsAbove(t *testing.T) {
	for _, op := range []int{api.Shl, api.Shr, api.Sar} {
		for _, size := range sizes() {
			for _, count := range []int{0, 1, 2, 7, 8, 9, 31, 32, 33, 63, 64, 65, 128, 255} {
				for _, a := range few(size) {
					for _, d := range dirty(size) {
						for _, old := range someFlags() {
							same(t, of(alu.Shift(op, a|d, count, old, size)), stepwise(op, a, count, old, size), "Shift", op, a|d, count, old, size)
						}
					}
				}
			}
		}
	}
}

func TestP206Refused(t *testing.T) {
	counts := []int{math.MinInt, math.MinInt + 1, -1 << 32, -256, -255, -64, -32, -2, -1, 256, 257, 288, 320, 512, 1 << 32, 1<<32 + 1, math.MaxInt}
	ops := []int{api.Shl, api.Shr, api.Sar}
	for _, old := range someFlags() {
		for _, op := range ops {
			for _, size := range sizes() {
				for _, count := range counts {
					same(t, of(alu.Shift(op, 7, count, old, size)), refused(), "Shift", op, 7, count, old, size)
				}
			}
			for _, size := range noSizes() {
				for _, count := range append(counts, 0, 1, 31, 32, 63, 64, 255) {
					same(t, of(alu.Shift(op, 7, count, old, size)), refused(), "Shift", op, 7, count, old, size)
				}
			}
		}
		for _, op := range otherOps(ops...) {
			for _, size := range append(noSizes(), sizes()...) {
				for _, count := range []int{-1, 0, 1, 32, 64, 255, 256} {
					same(t, of(alu.Shift(op, 7, count, old, size)), refused(), "Shift", op, 7, count, old, size)
				}
			}
		}
	}
}
