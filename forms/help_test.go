package forms_test

import (
	"math"
	"slices"

	"gangway/api"
)

// Both ends of what fits into four bytes with a sign.
const (
	least = -1 << 31
	most  = 1<<31 - 1
)

func reg(r int) api.Operand { return api.Operand{Kind: api.Reg, R: r} }

func imm(n int) api.Operand { return api.Operand{Kind: api.Imm, N: n} }

func based(base, n int) api.Operand {
	return api.Operand{Kind: api.Mem, Base: base, Index: -1, N: n}
}

func indexed(base, index, scale, n int) api.Operand {
	return api.Operand{Kind: api.Mem, Base: base, Index: index, Scale: scale, N: n}
}

func rip(n int) api.Operand {
	return api.Operand{Kind: api.Mem, Base: -1, Index: -1, Rip: true, N: n}
}

func fs(n int) api.Operand {
	return api.Operand{Kind: api.Mem, Base: -1, Index: -1, Fs: true, N: n}
}

func target(n int) api.Operand { return api.Operand{Kind: api.Target, N: n} }

func to(name string) api.Operand { return api.Operand{Kind: api.Target, Name: name} }

// named: the same operand with a name.
func named(o api.Operand, name string, mod int) api.Operand {
	o.Name, o.Mod = name, mod
	return o
}

// sample: an operand, and what the document's table calls it: "" if it is none that may be.
type sample struct {
	o  api.Operand
	is string
}

func rightSamples() []sample {
	l := []sample{{api.Operand{}, "none"}}
	for _, r := range []int{0, 1, 4, 15} {
		l = append(l, sample{reg(r), "r"})
	}
	for _, n := range []int{math.MinInt, least - 1, least, -129, -128, -1, 0, 1, 31, 32, 63, 64, 127, 128, 255, 256, most, most + 1, 1<<32 - 1, 1 << 32, math.MaxInt} {
		l = append(l, sample{imm(n), "imm"})
	}
	for _, o := range []api.Operand{based(0, 0), based(4, -8), indexed(5, 0, 1, 0), indexed(15, 12, 8, most), named(based(3, 4), "x", api.Tpoff), named(indexed(1, 2, 2, 0), "x", api.Dtpoff), rip(0), rip(least), named(rip(8), "x", api.Plain), named(rip(0), "x", api.GotPcrel), named(rip(0), "x", api.GotTpoff)} {
		l = append(l, sample{o, "m"})
	}
	for _, o := range []api.Operand{fs(0), fs(-8), named(fs(4), "x", api.Tpoff)} {
		l = append(l, sample{o, "m of fs"})
	}
	for _, o := range []api.Operand{target(0), target(-129), target(-128), target(127), target(128), target(most), to("x"), named(target(0), "x", api.Plt)} {
		l = append(l, sample{o, "target"})
	}
	return l
}

func wrongSamples() []sample {
	var l []sample
	for _, o := range []api.Operand{reg(-1), reg(16), {Kind: -1}, {Kind: 5}, {N: 1}, {Kind: api.Imm, Name: "x"}, based(16, 0), based(-1, 0), indexed(0, 4, 1, 0), indexed(0, 1, 3, 0), {Kind: api.Mem}, rip(most + 1), named(rip(1), "x", api.GotPcrel), fs(least - 1), target(most + 1), named(target(1), "x", api.Plain)} {
		l = append(l, sample{o, ""})
	}
	return l
}

// line: a line of the document's table of instructions: what To and From may be, and of which sizes.
type line struct {
	ops         []int
	to, from    string
	sizes       []int
	conds       bool
	shortTarget bool
}

func sums() []int {
	return []int{api.Add, api.Or, api.Adc, api.Sbb, api.And, api.Sub, api.Xor, api.Cmp}
}

func shifts() []int { return []int{api.Shl, api.Shr, api.Sar} }

// lines: the document's table, line by line.
func lines() []line {
	all, wide, whole := []int{1, 4, 8}, []int{4, 8}, []int{8}
	return []line{
		{ops: []int{api.Mov}, to: "r/m", from: "r", sizes: all},
		{ops: []int{api.Mov}, to: "r", from: "m", sizes: all},
		{ops: []int{api.Mov}, to: "r/m", from: "fitting", sizes: all},
		{ops: []int{api.Mov}, to: "r", from: "any", sizes: whole},
		{ops: []int{api.Lea}, to: "r", from: "m not of fs", sizes: wide},
		{ops: sums(), to: "r/m", from: "r", sizes: all},
		{ops: sums(), to: "r", from: "m", sizes: all},
		{ops: sums(), to: "r/m", from: "fitting", sizes: all},
		{ops: []int{api.Test}, to: "r/m", from: "r", sizes: all},
		{ops: []int{api.Test}, to: "r/m", from: "fitting", sizes: all},
		{ops: []int{api.Imul}, to: "r", from: "r/m", sizes: wide},
		{ops: []int{api.Neg, api.Not, api.Inc, api.Dec}, to: "r/m", from: "none", sizes: all},
		{ops: shifts(), to: "r/m", from: "count", sizes: all},
		{ops: shifts(), to: "r/m", from: "rcx", sizes: all},
		{ops: []int{api.Push}, to: "none", from: "r/m", sizes: whole},
		{ops: []int{api.Push}, to: "none", from: "signed", sizes: whole},
		{ops: []int{api.Pop}, to: "r/m", from: "none", sizes: whole},
		{ops: []int{api.Call}, to: "target", from: "none", sizes: whole},
		{ops: []int{api.Call}, to: "r/m", from: "none", sizes: whole},
		{ops: []int{api.Jmp}, to: "target", from: "none", sizes: whole, shortTarget: true},
		{ops: []int{api.Jmp}, to: "r/m", from: "none", sizes: whole},
		{ops: []int{api.Jcc}, to: "target", from: "none", sizes: whole, conds: true, shortTarget: true},
		{ops: []int{api.Ret, api.Leave, api.Cqo, api.Nop, api.Ud2, api.Syscall}, to: "none", from: "none", sizes: []int{0}},
		{ops: []int{api.Setcc}, to: "r/m", from: "none", sizes: []int{1}, conds: true},
		{ops: []int{api.Cmov}, to: "r", from: "r/m", sizes: wide, conds: true},
		{ops: []int{api.Movzx, api.Movsx}, to: "r", from: "r/m", sizes: wide},
		{ops: []int{api.Xchg}, to: "r/m", from: "r", sizes: wide},
	}
}

func between(n, low, high int) bool { return n >= low && n <= high }

// suits: whether a sample is what a line of the table asks for.
func (s sample) suits(word string, size int) bool {
	n := s.o.N
	switch word {
	case "r/m":
		return s.is == "r" || s.is == "m" || s.is == "m of fs"
	case "m":
		return s.is == "m" || s.is == "m of fs"
	case "m not of fs":
		return s.is == "m"
	case "any":
		return s.is == "imm"
	case "signed":
		return s.is == "imm" && between(n, -2147483648, 2147483647)
	case "fitting":
		return s.is == "imm" && (size == 1 && between(n, -128, 255) || size == 4 && between(n, -2147483648, 4294967295) || size == 8 && between(n, -2147483648, 2147483647))
	case "count":
		return s.is == "imm" && (size == 8 && between(n, 0, 63) || size != 8 && between(n, 0, 31))
	case "rcx":
		return s.is == "r" && s.o.R == 1
	}
	return s.is == word
}

// has: whether the line has that op and size, with a Cond and a Short that it has.
func (l line) has(i api.Inst) bool {
	if !slices.Contains(l.ops, i.Op) || !slices.Contains(l.sizes, i.Size) {
		return false
	}
	if i.Short && (!l.shortTarget || !between(i.To.N, -128, 127)) {
		return false
	}
	return i.Cond == 0 || l.conds && between(i.Cond, 0, 15)
}

// isInstruction: whether some line has it.
func isInstruction(table []line, i api.Inst, to, from sample) bool {
	for _, l := range table {
		if l.has(i) && to.suits(l.to, i.Size) && from.suits(l.from, i.Size) {
			return true
		}
	}
	return false
}

// rightInstructions: of all lines, with all samples that suit, some conditions, and short ones.
func rightInstructions() []api.Inst {
	var list []api.Inst
	for _, l := range lines() {
		for _, op := range l.ops {
			for _, size := range l.sizes {
				list = append(list, l.instructions(op, size)...)
			}
		}
	}
	return list
}

func (l line) instructions(op, size int) []api.Inst {
	var list []api.Inst
	for _, to := range rightSamples() {
		for _, from := range rightSamples() {
			if !to.suits(l.to, size) || !from.suits(l.from, size) {
				continue
			}
			for _, cond := range []int{0, 5, 15} {
				for _, short := range []bool{false, true} {
					i := api.Inst{Op: op, Size: size, Cond: cond, To: to.o, From: from.o, Short: short}
					if l.has(i) {
						list = append(list, i)
					}
				}
			}
		}
	}
	return list
}
