package forms

import "gangway/api"

// The functions of this file are what the rows of the table take, of operands that may be.

// moved: of 8 bytes a register takes each number there is.
func moved(size int, to, from api.Operand) bool {
	return combined(size, to, from) || size == 8 && to.Kind == api.Reg && from.Kind == api.Imm
}

func combined(size int, to, from api.Operand) bool {
	return tested(size, to, from) || to.Kind == api.Reg && from.Kind == api.Mem
}

func tested(size int, to, from api.Operand) bool {
	return stored(size, to, from) || isPlace(to) && from.Kind == api.Imm && fits(from.N, size)
}

func stored(_ int, to, from api.Operand) bool {
	return isPlace(to) && from.Kind == api.Reg
}

func loaded(_ int, to, from api.Operand) bool {
	return to.Kind == api.Reg && isPlace(from)
}

// located: the thread's base is no part of an address that can be told.
func located(_ int, to, from api.Operand) bool {
	return to.Kind == api.Reg && from.Kind == api.Mem && !from.Fs
}

func single(_ int, to, from api.Operand) bool {
	return isPlace(to) && from.Kind == api.None
}

func shifted(size int, to, from api.Operand) bool {
	most := 31
	if size == 8 {
		most = 63
	}
	counts := from.Kind == api.Imm && within(from.N, 0, most)
	return isPlace(to) && (counts || from.Kind == api.Reg && from.R == api.Rcx)
}

func pushed(_ int, to, from api.Operand) bool {
	return to.Kind == api.None && (isPlace(from) || from.Kind == api.Imm && fitsSigned(from.N))
}

func called(size int, to, from api.Operand) bool {
	return aimed(size, to, from) || single(size, to, from)
}

func aimed(_ int, to, from api.Operand) bool {
	return to.Kind == api.Target && from.Kind == api.None
}

func bare(_ int, to, from api.Operand) bool {
	return to.Kind == api.None && from.Kind == api.None
}

func isPlace(o api.Operand) bool { return o.Kind == api.Reg || o.Kind == api.Mem }

// fits: of 1 and 4 bytes a number with a sign or one without; of 8 bytes four of them are written, with their sign.
func fits(n, size int) bool {
	switch size {
	case 1:
		return within(n, -1<<7, 1<<8-1)
	case 4:
		return within(n, -1<<31, 1<<32-1)
	}
	return fitsSigned(n)
}

// fitsSigned: in four bytes with a sign, as displacements and jumps have it.
func fitsSigned(n int) bool { return within(n, -1<<31, 1<<31-1) }

func within(n, low, high int) bool { return low <= n && n <= high }
