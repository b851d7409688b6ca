package ehframe

import (
	"gangway/api"
	"gangway/cfa"
)

const (
	// maxOps: with the Nops that fill up a record they still are as many as cfa reads.
	maxOps   = api.MaxRows - 8
	maxStart = 1 << 59
)

// isStart: a section may begin at this address.
func isStart(addr int) bool { return 0 <= addr && addr <= maxStart }

func areTooMany(c []Cie, f []Fde) bool {
	if len(c) > api.MaxRows || len(f) > api.MaxRows {
		return true
	}
	for _, x := range c {
		if len(x.Initial) > maxOps {
			return true
		}
	}
	for _, x := range f {
		if len(x.Ops) > maxOps {
			return true
		}
	}
	return false
}

func haveRightNumbers(c []Cie, f []Fde) bool {
	for _, x := range c {
		if _, ok := encodingOf(x.Enc); !ok {
			return false
		}
	}
	for _, x := range f {
		if x.Cie < 0 || x.Cie >= len(c) || !isAddress(x.Begin) || x.Size < 0 || x.Size > api.MaxBytes {
			return false
		}
	}
	return true
}

func haveRightOps(c []Cie, f []Fde) bool {
	for _, x := range c {
		if cfa.Check(x.Initial, nil, 0) != api.OK {
			return false
		}
	}
	for _, x := range f {
		if cfa.Check(c[x.Cie].Initial, x.Ops, x.Size) != api.OK {
			return false
		}
	}
	return true
}
