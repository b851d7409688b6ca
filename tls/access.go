package tls

import "gangway/api"

// call: what the models that ask the library call.
const call = "__tls_get_addr"

// access: a model's sequence: the registers it may be of, up to the last one; its holes, of which the first is its own.
type access struct {
	last   int
	holes  []api.Hole
	write  func(reg int) []byte
	read   func(a access, b []byte, at int) (from, size int, is bool)
	become func(piece []byte, offset string)
}

// accesses: from the model Global on; a hole's name is the symbol's, where none is told.
func accesses() [Exec]access {
	return [Exec]access{
		{0, []api.Hole{hollow(4, api.RTlsgd, -4, ""), hollow(12, api.RPlt32, -4, call)}, global, access.around, fromGlobal},
		{0, []api.Hole{hollow(3, api.RTlsld, -4, ""), hollow(8, api.RPlt32, -4, call)}, local, access.around, fromLocal},
		{15, []api.Hole{hollow(3, api.RGotTpoff, -4, "")}, initial, access.around, fromInitial},
		{15, []api.Hole{hollow(3, api.RTpoff32, 0, "")}, exec, access.alone, fromExec},
	}
}

func accessOf(model int) access { return accesses()[model-1] }

func hollow(at, t, add int, name string) api.Hole {
	return api.Hole{At: at, Size: hole, Type: t, Name: name, Add: add}
}

// around: the sequence, of whichever register, with its first hole at that place and anything in its holes.
func (a access) around(b []byte, at int) (from, size int, is bool) {
	ahead, size := a.holes[0].At, len(a.write(0))
	if at < ahead || at-ahead > len(b)-size {
		return 0, 0, false
	}
	from = at - ahead
	piece := b[from : from+size]
	if !alike(piece, a.write(register(piece)), func(place int) bool { return !a.isHole(place) }) {
		return 0, 0, false
	}
	return from, size, true
}

// alone: the hole itself, since Exec is what others become and any instruction may have it.
func (a access) alone(b []byte, at int) (from, size int, is bool) {
	if at < 0 || at > len(b)-hole {
		return 0, 0, false
	}
	return at, hole, true
}

// isHole: whether a byte of the sequence is one of a hole.
func (a access) isHole(place int) bool {
	for _, h := range a.holes {
		if place >= h.At && place < h.At+h.Size {
			return true
		}
	}
	return false
}

// alike: whether two rows of bytes are the same at each place that is asked.
func alike(b, c []byte, isAsked func(place int) bool) bool {
	for place := range c {
		if isAsked(place) && b[place] != c[place] {
			return false
		}
	}
	return true
}
