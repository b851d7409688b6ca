package ehframe

import (
	"bytes"

	"gangway/api"
	"gangway/cfa"
	"gangway/leb"
)

// insist gives up, if what was read is not as it must be: the face recovers.
func insist(right bool) {
	if !right {
		panic(api.ErrFrame)
	}
}

// reader reads numbers up to the end of its bytes, and gives up where there is none.
type reader struct {
	b        []byte
	at, addr int
}

func (r *reader) read(n, end int, e api.Errno) int {
	insist(e == api.OK)
	r.at = end
	return n
}

func (r *reader) fixed(size int) int {
	n, e := leb.Get(r.b, r.at, size, false)
	return r.read(n, r.at+size, e)
}

func (r *reader) uleb() int { return r.read(leb.ReadUleb(r.b, r.at)) }

func (r *reader) sleb() int { return r.read(leb.ReadSleb(r.b, r.at)) }

func (r *reader) pointer(enc int) int { return r.read(Get(r.b, r.at, enc, r.addr, 0)) }

func (r *reader) isAtEnd() bool { return r.at == len(r.b) }

// isAtMark: a length 0 ends the section.
func (r *reader) isAtMark() bool {
	return bytes.Equal(r.b[r.at:], make([]byte, endSize))
}

// record is the next one, from behind its length on.
func (r *reader) record() reader {
	length := r.fixed(wordSize)
	insist(length%wordSize == 0 && length <= len(r.b)-r.at)
	begin := r.at
	r.at += length
	return reader{b: r.b[:r.at], at: begin, addr: r.addr}
}

// maxZeros: an op's last bytes that are 0, at most: those of the longest Advance.
const maxZeros = 4

// ops are those up to the end, without Nops at theirs: of these there may be more than cfa reads. How many of the bytes 0 at the end belong to the last other op shows where ops can be read.
func (r *reader) ops() []cfa.Op {
	rest := r.b[r.at:]
	least := len(bytes.TrimRight(rest, "\x00"))
	for size := least; size <= min(least+maxZeros, len(rest)); size++ {
		if l, e := cfa.Read(rest[:size]); e == api.OK {
			return l
		}
	}
	panic(api.ErrFrame)
}

// tables are what was read so far.
type tables struct {
	c       []Cie
	f       []Fde
	numbers map[int]int // of CIEs, by their places
}

func (t *tables) read(r reader) {
	for !r.isAtEnd() && !r.isAtMark() {
		place := r.at
		t.record(place, r.record())
	}
}

func (t *tables) record(place int, r reader) {
	idPlace := r.at
	id := r.fixed(wordSize)
	if id == cieId {
		t.numbers[place] = len(t.c)
		t.c = append(t.c, cieOf(r))
		return
	}
	k, ok := t.numbers[idPlace-id]
	insist(ok)
	t.f = append(t.f, fdeOf(r, k, t.c[k].Enc))
}

func cieOf(r reader) Cie {
	insist(r.fixed(1) == version)
	for k := range len(augmented) {
		insist(r.fixed(1) == int(augmented[k]))
	}
	insist(r.uleb() == codeUnit && r.sleb() == dataUnit)
	insist(r.fixed(1) == returned && r.fixed(1) == cieExtra)
	enc := r.fixed(1)
	return Cie{Enc: enc, Initial: r.ops()}
}

func fdeOf(r reader, cie, enc int) Fde {
	begin := r.pointer(enc)
	size := r.pointer(plain(enc))
	insist(r.fixed(1) == fdeExtra)
	return Fde{Cie: cie, Begin: begin, Size: size, Ops: r.ops()}
}
