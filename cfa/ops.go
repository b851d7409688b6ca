package cfa

import "gangway/api"

const (
	lastRegister = 16
	most         = 1<<31 - 1 // of an N that has no sign
	unit         = 8         // Offsets are multiples of it
)

// bounds: how far R and N of an op may go, and what N is a multiple of. A field that an op has not goes from 0 to 0.
type bounds struct {
	lastR             int
	lowN, highN, unit int
}

// shapes: the bounds of each kind.
var shapes = [...]bounds{
	Nop:         {unit: 1},
	Advance:     {highN: most, unit: 1},
	DefCfa:      {lastR: lastRegister, highN: most, unit: 1},
	DefOffset:   {highN: most, unit: 1},
	DefRegister: {lastR: lastRegister, unit: 1},
	Offset:      {lastR: lastRegister, lowN: -most - 1, highN: most, unit: unit},
	Restore:     {lastR: lastRegister, unit: 1},
	Undefined:   {lastR: lastRegister, unit: 1},
	SameValue:   {lastR: lastRegister, unit: 1},
	Remember:    {unit: 1},
	Recall:      {unit: 1},
}

// mayBe: whether an op is one, wherever it stands.
func mayBe(o Op) bool {
	if o.Kind < 0 || o.Kind >= len(shapes) {
		return false
	}
	s := shapes[o.Kind]
	return isWithin(o.R, 0, s.lastR) && isWithin(o.N, s.lowN, s.highN) && o.N%s.unit == 0
}

func isWithin(n, low, high int) bool { return low <= n && n <= high }

func isSize(size int) bool { return isWithin(size, 0, api.MaxBytes) }
