package decode

import "gangway/api"

// Bits of REX: eight bytes; reg, the Index, and the r/m operand's register are from 8 on.
const (
	rexNone  = 0x40
	rexWide  = 8
	rexReg   = 4
	rexIndex = 2
	rexBase  = 1
)

// fsPrefix: memory is told from the thread's base; twoBytes: the opcode has another one.
const (
	fsPrefix = 0x64
	twoBytes = 0x0f
)

// reader: of one instruction's bytes. It gives up by a panic with an error's number, at the first byte with which no instruction can go on, so that bytes that end before are the beginning of one. What it has read so far: prefixes (rex is 0 where there is none), the opcode, the size that they tell, ModRM's fields.
type reader struct {
	b           []byte
	at          int
	fs          bool
	rex, opcode int
	size        int
	mod, reg, r int
}

// instruction: the one that the bytes begin with.
func (r *reader) instruction() api.Inst {
	r.prefixes()
	w := rowOf(r.opcode)
	r.size = r.sizeIn(w)
	r.settlePrefixes(w)
	if w.hasModRM() {
		r.modRM(w)
	}
	i := api.Inst{Op: r.opIn(w), Size: r.size, Cond: r.conditionIn(w)}
	w.read(r, &i)
	return i
}

// insist: where this does not hold there is no such instruction.
func insist(holds bool) {
	if !holds {
		panic(api.ErrForm)
	}
}

func (r *reader) next() int {
	if r.at == len(r.b) {
		panic(api.ErrEnd)
	}
	r.at++
	return int(r.b[r.at-1])
}

// number: of so many bytes, with its sign.
func (r *reader) number(size int) int {
	n := 0
	for k := range size {
		n |= r.next() << (8 * k)
	}
	return extend(n, size)
}

// long: a number that fewer bytes can't tell: if they can, it stands in them.
func (r *reader) long(size, fewer int) int {
	n := r.number(size)
	insist(n != extend(n, fewer))
	return n
}

// extend: the low bytes alone, with their sign.
func extend(n, size int) int {
	above := 64 - 8*size
	return n << above >> above
}

// prefixes: and the opcode, which has the first of two bytes above.
func (r *reader) prefixes() {
	x := r.next()
	if x == fsPrefix {
		r.fs = true
		x = r.next()
	}
	if x&0xf0 == rexNone {
		r.rex = x
		// Beside the thread's base stands no other register.
		insist(!r.fs || !r.has(rexIndex|rexBase))
		x = r.next()
	}
	if x == twoBytes {
		// None of these opcodes has a register of one byte beside memory.
		insist(!r.fs || r.rex != rexNone)
		x = x<<8 | r.next()
	}
	r.opcode = x
}

func (r *reader) has(bits int) bool { return r.rex&bits != 0 }

// settlePrefixes: they may stand ahead of this opcode, as far as it tells.
func (r *reader) settlePrefixes(w row) {
	insist(r.rex&register&^w.beside == 0)
	insist(!r.fs || w.hasModRM() && !w.has(notFs))
	// A register of one byte may yet come: within the opcode, as reg, or as r/m.
	inOpcodeOrReg := r.size == 1 && (!w.hasModRM() || w.has(rexReg))
	inPlace := r.byteAt(w) && w.has(direct) && !r.fs
	insist(r.rex != rexNone || inOpcodeOrReg || inPlace)
}

// settleByte: REX without a bit stands for a register of one byte from 4 to 7 alone, and that one has a REX.
func (r *reader) settleByte(hasOne bool) {
	insist(r.rex != rexNone || hasOne)
	insist(r.rex != 0 || !hasOne)
}

// byteAt: whether r/m is of one byte.
func (r *reader) byteAt(w row) bool { return r.size == 1 || w.has(ofByte) }

// registerOf: its low three bits, and the bit of REX that has the fourth one.
func (r *reader) registerOf(low, bit int) int {
	if r.has(bit) {
		return low + 8
	}
	return low
}

// isAbove: whether a number of a register of one byte is spl, bpl, sil or dil.
func isAbove(number int) bool { return number >= api.Rsp && number <= api.Rdi }
