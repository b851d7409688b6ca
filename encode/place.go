package encode

import (
	"math/bits"

	"gangway/api"
	"gangway/leb"
)

// What ModRM's r means, beside a register: that SIB follows, or that memory is told from rip.
const (
	sibFollows = 4
	fromRip    = 5
)

// place: how an r/m operand is told: ModRM's mod and r, SIB and the displacement, as far as they are there.
type place struct {
	mod, r            int
	sib, displacement field
}

func placeOf(o api.Operand) place {
	switch {
	case o.Kind != api.Mem:
		return place{mod: 3, r: low(o.R)}
	case o.Rip:
		return place{r: fromRip, displacement: field{shown(o), 4}}
	case o.Fs:
		return place{r: sibFollows, sib: field{0x25, 1}, displacement: field{shown(o), 4}}
	}
	p := place{r: low(o.Base)}
	switch {
	case o.Index >= 0:
		p.sib = field{bits.TrailingZeros(uint(o.Scale))<<6 | low(o.Index)<<3 | low(o.Base), 1}
		p.r = sibFollows
	case p.r == sibFollows:
		p.sib = field{0x24, 1}
	}
	p.mod, p.displacement = displacementOf(o)
	return p
}

// displacementOf: behind a Base, and the mod that tells how long it is. Without any, rbp and r13 would mean other memory.
func displacementOf(o api.Operand) (mod int, f field) {
	switch {
	case o.Name != "" || !leb.Fits(o.N, 8, true):
		return 2, field{shown(o), 4}
	case o.N != 0 || low(o.Base) == api.Rbp:
		return 1, field{o.N, 1}
	}
	return 0, field{}
}

// shown: what stands in the bytes; beside a name the hole tells N.
func shown(o api.Operand) int {
	if o.Name != "" {
		return 0
	}
	return o.N
}

// low: of a register's number what ModRM, SIB and the opcode have room for.
func low(r int) int { return r & 7 }
