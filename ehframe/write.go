package ehframe

import (
	"gangway/api"
	"gangway/cfa"
	"gangway/leb"
)

const (
	endSize   = 4
	wordSize  = 4 // of a record's length, and of its id
	unit      = 8 // whole ones are what a written record has
	cieId     = 0
	version   = 1
	augmented = "zR\x00"
	codeUnit  = 1
	dataUnit  = -8
	returned  = 16 // the register
	cieExtra  = 1  // bytes: the encoding
	fdeExtra  = 0
)

// byCie are the numbers of the FDEs that each CIE has.
func byCie(f []Fde, cies int) [][]int {
	groups := make([][]int, cies)
	for k, x := range f {
		groups[x.Cie] = append(groups[x.Cie], k)
	}
	return groups
}

// writer writes records of tables that may be. Beyond MaxBytes it goes on counting alone: a pointer farther on may still not fit.
type writer struct {
	addr int
	size int
	b    []byte
}

// cie answers the record's place.
func (w *writer) cie(c Cie) int {
	place := w.size
	body := append([]byte{version}, augmented...)
	body = append(body, leb.Uleb(codeUnit)...)
	body = append(body, leb.Sleb(dataUnit)...)
	body = append(body, returned, cieExtra, byte(c.Enc))
	w.record(cieId, body, c.Initial)
	return place
}

// fde answers whether the pointers fit.
func (w *writer) fde(f Fde, enc, cie int) bool {
	id := w.size + wordSize
	begin, e := Put(enc, f.Begin, w.addr+id+wordSize, 0)
	if e != api.OK {
		return false
	}
	size, e := Put(plain(enc), f.Size, 0, 0)
	if e != api.OK {
		return false
	}
	w.record(id-cie, append(append(begin, size...), fdeExtra), f.Ops)
	return true
}

// record puts length and id ahead, and the ops and what fills up behind.
func (w *writer) record(id int, body []byte, l []cfa.Op) {
	ops, _ := cfa.Write(l)
	length := wordSize + len(body) + len(ops)
	size, _ := leb.Align(wordSize+length, unit)
	fill := make([]byte, size-wordSize-length)
	w.add(word(size - wordSize))
	w.add(word(id))
	w.add(body)
	w.add(ops)
	w.add(fill)
}

func word(n int) []byte {
	b, _ := leb.Put(n, wordSize)
	return b
}

func (w *writer) add(b []byte) {
	w.size += len(b)
	if w.size <= api.MaxBytes {
		w.b = append(w.b, b...)
	}
}
