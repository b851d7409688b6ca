package alu

import (
	"math/bits"

	"gangway/api"
)

// Where the flags stand in a number; one bit is always there.
const (
	bitC      = 1
	bitAlways = 2
	bitP      = 4
	bitZ      = 64
	bitS      = 128
	bitO      = 2048
)

// conditions: each of them comes with its opposite.
const conditions = 16

// Cond: a condition; Pack, Unpack: flags as a number.
func Cond(c int, f api.Flags) (bool, api.Errno) {
	if c < 0 || c >= conditions {
		return false, api.ErrArg
	}
	below := f.S != f.O
	even := [conditions / 2]bool{f.O, f.C, f.Z, f.C || f.Z, f.S, f.P, below, f.Z || below}
	return even[c/2] != (c%2 == 1), api.OK
}

func Pack(f api.Flags) uint64 {
	return bitAlways | bit(f.C, bitC) | bit(f.P, bitP) | bit(f.Z, bitZ) | bit(f.S, bitS) | bit(f.O, bitO)
}

func Unpack(x uint64) api.Flags {
	return api.Flags{C: x&bitC != 0, P: x&bitP != 0, Z: x&bitZ != 0, S: x&bitS != 0, O: x&bitO != 0}
}

func bit(is bool, b uint64) uint64 {
	if is {
		return b
	}
	return 0
}

// evenOnes: of the lowest 8 bits alone, whatever the size is.
func evenOnes(r uint64) bool { return bits.OnesCount8(uint8(r))%2 == 0 }
