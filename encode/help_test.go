package encode_test

import (
	"math"

	"gangway/api"
)

// Both ends of what fits into four bytes with a sign.
const (
	least = -1 << 31
	most  = 1<<31 - 1
)

func reg(r int) api.Operand { return api.Operand{Kind: api.Reg, R: r} }

func imm(n int) api.Operand { return api.Operand{Kind: api.Imm, N: n} }

func based(base, n int) api.Operand {
	return api.Operand{Kind: api.Mem, Base: base, Index: -1, N: n}
}

func indexed(base, index, scale, n int) api.Operand {
	return api.Operand{Kind: api.Mem, Base: base, Index: index, Scale: scale, N: n}
}

func rip(n int) api.Operand {
	return api.Operand{Kind: api.Mem, Base: -1, Index: -1, Rip: true, N: n}
}

func fs(n int) api.Operand {
	return api.Operand{Kind: api.Mem, Base: -1, Index: -1, Fs: true, N: n}
}

func target(n int) api.Operand { return api.Operand{Kind: api.Target, N: n} }

func to(name string, mod int) api.Operand {
	return api.Operand{Kind: api.Target, Name: name, Mod: mod}
}

// named: the same operand with a name.
func named(o api.Operand, name string, mod int) api.Operand {
	o.Name, o.Mod = name, mod
	return o
}

func inst(op, size int, to, from api.Operand) api.Inst {
	return api.Inst{Op: op, Size: size, To: to, From: from}
}

// when: the same instruction with a condition.
func when(i api.Inst, cond int) api.Inst {
	i.Cond = cond
	return i
}

func short(i api.Inst) api.Inst {
	i.Short = true
	return i
}

func sums() []int {
	return []int{api.Add, api.Or, api.Adc, api.Sbb, api.And, api.Sub, api.Xor, api.Cmp}
}

func shifts() []int { return []int{api.Shl, api.Shr, api.Sar} }

func registers() []api.Operand {
	var l []api.Operand
	for r := range 16 {
		l = append(l, reg(r))
	}
	return l
}

// numbers: at both ends of 1, 4 and 8 bytes, with a sign and without, one beyond, and such as are short by their low 32 bits alone.
func numbers() []int {
	return []int{math.MinInt, least - 1, least, least + 1, -257, -256, -255, -129, -128, -127, -1, 0, 1, 8, 31, 63, 126, 127, 128, 129, 255, 256, most, most + 1, 1<<32 - 257, 1<<32 - 129, 1<<32 - 128, 1<<32 - 127, 1<<32 - 1, 1 << 32, 1<<32 + 1, math.MaxInt}
}

func displacements() []int {
	return []int{least, -32769, -129, -128, -127, -1, 0, 1, 126, 127, 128, 255, 256, 32768, most}
}

// memory: each Base without an Index, and with each that may be, each Scale; Rip and Fs; with names and without.
func memory() []api.Operand {
	var l []api.Operand
	for _, n := range displacements() {
		l = append(l, rip(n), named(rip(n), "x", api.Plain), fs(n), named(fs(n), "x", api.Tpoff))
		for base := range 16 {
			l = append(l, based(base, n), named(based(base, n), "x", api.Tpoff), named(based(base, n), "x", api.Dtpoff))
			for index := range 16 {
				for _, scale := range []int{1, 2, 4, 8} {
					if index != api.Rsp {
						l = append(l, indexed(base, index, scale, n))
					}
				}
			}
			l = append(l, named(indexed(base, 12, 4, n), "x", api.Tpoff), named(indexed(base, 3, 1, n), "x", api.Dtpoff))
		}
	}
	return append(l, named(rip(0), "x", api.GotPcrel), named(rip(0), "x", api.GotTpoff))
}

// fewMemory: some of each kind, for sweeps over much else.
func fewMemory() []api.Operand {
	return []api.Operand{
		based(0, 0), based(4, 8), based(5, 0), based(12, 0), based(13, -129), based(15, 127), indexed(3, 9, 2, 0), indexed(13, 12, 4, 0), indexed(8, 1, 8, 128),
		named(based(4, 3), "x", api.Tpoff), named(indexed(1, 8, 1, 0), "long.name_1", api.Dtpoff),
		rip(0), rip(most), named(rip(8), "x", api.Plain), named(rip(0), "x", api.GotPcrel), named(rip(0), "y", api.GotTpoff), fs(0), fs(-8), named(fs(4), "x", api.Tpoff),
	}
}

func targets() []api.Operand {
	l := []api.Operand{to("f", api.Plain), to("f", api.Plt), to("another", api.Plain)}
	for _, n := range displacements() {
		l = append(l, target(n))
	}
	return l
}

// operands: some of each kind; none is the first one.
func operands() []api.Operand {
	l := append([]api.Operand{{}}, registers()...)
	for _, n := range numbers() {
		l = append(l, imm(n))
	}
	return append(append(l, fewMemory()...), targets()...)
}
