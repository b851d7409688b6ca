package reloc

// far: no number of a place lies beyond it, so that sums of three are as they truly are.
const far = 1 << 60

func (p Place) isRight() bool {
	for _, n := range [...]int{p.S, p.A, p.P, p.G, p.Tp} {
		if n < -far || n > far {
			return false
		}
	}
	return true
}

// sum, near, slot, offset: the symbol's address, how far it is from the bytes, how far its slot is, and its offset from FS; each with what is added.
func (p Place) sum() int { return p.S + p.A }

func (p Place) near() int { return p.S + p.A - p.P }

func (p Place) slot() int { return p.G + p.A - p.P }

func (p Place) offset() int { return p.S + p.A - p.Tp }
