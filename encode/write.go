package encode

import "gangway/api"

// Bits of REX: eight bytes; reg, the Index, and the r/m operand's register are from 8 on.
const (
	rexNone  = 0x40
	rexWide  = 8
	rexReg   = 4
	rexIndex = 2
	rexBase  = 1
)

// fsPrefix: memory is told from the thread's base.
const fsPrefix = 0x64

// holeTypes: by a name's mod.
var holeTypes = [6]int{
	api.Plain:    api.RPc32,
	api.Plt:      api.RPlt32,
	api.GotPcrel: api.RGotPcrel,
	api.GotTpoff: api.RGotTpoff,
	api.Tpoff:    api.RTpoff32,
	api.Dtpoff:   api.RDtpoff32,
}

// writer: the bytes that there are so far.
type writer struct{ b []byte }

func (w *writer) grow(b ...byte) { w.b = append(w.b, b...) }

// write: the parts, one behind the other, by a function that takes them in.
func (p parts) write(grow func(...byte)) {
	if p.rm.Fs {
		grow(fsPrefix)
	}
	if rex := p.rex(); rex != rexNone || p.byteAbove {
		grow(rex)
	}
	if p.opcode > 0xff {
		grow(byte(p.opcode >> 8))
	}
	grow(byte(p.opcode) + byte(low(p.within)))
	if p.rm.Kind != api.None {
		grow(byte(p.place.mod<<6 | low(p.reg)<<3 | p.place.r))
	}
	for _, f := range [3]field{p.place.sib, p.place.displacement, p.number} {
		grow(lowBytes(f.n, f.size)...)
	}
}

// rex: fields that an operand of its kind does not have are 0, or -1, so no kind is asked.
func (p parts) rex() byte {
	rex := byte(rexNone)
	if p.wide {
		rex |= rexWide
	}
	if p.reg >= 8 {
		rex |= rexReg
	}
	if p.rm.Index >= 8 {
		rex |= rexIndex
	}
	if p.rm.R >= 8 || p.rm.Base >= 8 || p.within >= 8 {
		rex |= rexBase
	}
	return rex
}

// holes: the displacement and the number are the last parts, so a hole's place is counted from the end, and so is what is told from there.
func (p parts) holes(i api.Inst, length int) []api.Hole {
	o, size, behind := p.rm, p.place.displacement.size, p.number.size
	if i.To.Kind == api.Target {
		o, size, behind = i.To, p.number.size, 0
	}
	if o.Name == "" {
		return nil
	}
	n := size + behind
	h := api.Hole{At: length - n, Size: size, Type: holeTypes[o.Mod], Name: o.Name, Add: o.N}
	if i.Short {
		h.Type = api.RNone
	}
	if o.Mod != api.Tpoff && o.Mod != api.Dtpoff {
		h.Add -= n
	}
	return []api.Hole{h}
}
