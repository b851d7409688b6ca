package elf

import (
	"gangway/api"
	"gangway/leb"
)

// How many bytes they have: the file's head, and a part's; a segment's; a relocation; an entry of the dynamic table.
const (
	headSize    = 64
	segmentSize = 56
	relaSize    = 24
	entrySize   = 16
)

// Kinds of files, and the machine that they are for.
const (
	objectKind = 1
	imageKind  = 3
	machine    = 62
)

// magic: what every file begins with: the name of the format, longs with the low byte first, its version.
const magic = "\x7fELF\x02\x01\x01\x00\x00\x00\x00\x00\x00\x00\x00\x00"

// writer: of bytes, one thing behind the other.
type writer struct {
	b []byte
}

// each: hands a list's elements, one behind the other, to what writes one of them.
func each[T any](l []T, write func(T)) {
	for _, x := range l {
		write(x)
	}
}

// put: numbers of so many bytes each. What may be fits.
func (w *writer) put(size int, numbers ...int) {
	for _, n := range numbers {
		b, _ := leb.Put(n, size)
		w.b = append(w.b, b...)
	}
}

// fill: with bytes 0, up to a place.
func (w *writer) fill(at int) {
	w.b = append(w.b, make([]byte, at-len(w.b))...)
}

// fileHead: where it begins to run, its heads of segments and those of parts stand; then the sizes of heads and how many there are.
func (w *writer) fileHead(kind int, places [3]int, counts [6]int) {
	w.b = append(w.b, magic...)
	w.put(2, kind, machine)
	w.put(4, 1)
	w.put(8, places[:]...)
	w.put(4, 0)
	w.put(2, counts[:]...)
}

func (w *writer) partHead(p part) {
	w.put(4, p.nameAt, p.kind)
	w.put(8, p.flags, 0, p.at, p.size)
	w.put(4, p.link, p.info)
	w.put(8, p.align, p.entrySize)
}

func (w *writer) partBytes(p part) {
	if p.kind != api.NoBits {
		w.fill(p.at)
		w.b = append(w.b, p.bytes...)
	}
}

func (w *writer) segmentHead(s api.Segment) {
	w.put(4, s.Type, s.Flags)
	w.put(8, s.Offset, s.Addr, s.Addr, s.Size, s.Memory, s.Align)
}

func (w *writer) rela(r Rela) { w.put(8, r.At, r.Type, r.Add) }

func (w *writer) entry(x Entry) { w.put(8, x.Tag, x.Value) }

// objectBytes: of parts that are placed, and their heads behind them; the first head is no part's.
func objectBytes(parts []part, heads int) []byte {
	w := &writer{}
	count := 1 + len(parts)
	w.fileHead(objectKind, [3]int{0, 0, heads}, [6]int{headSize, 0, 0, headSize, count, count - 1})
	each(parts, w.partBytes)
	w.fill(heads + headSize)
	each(parts, w.partHead)
	return w.b
}

func imageBytes(i Image) []byte {
	w := &writer{}
	w.fileHead(imageKind, [3]int{i.Entry, headSize, 0}, [6]int{headSize, segmentSize, len(i.Segments), headSize, 0, 0})
	each(i.Segments, w.segmentHead)
	for k, b := range i.Loads {
		w.fill(i.Segments[k].Offset)
		w.b = append(w.b, b...)
	}
	return w.b
}

// relocBytes: an object's relocations are written as an image's are, with the symbol's number above the type.
func relocBytes(l []api.Reloc, numbers map[string]int) []byte {
	w := &writer{}
	for _, r := range l {
		w.rela(Rela{At: r.At, Type: numbers[r.Symbol]<<32 + r.Type, Add: r.Add})
	}
	return w.b
}

func relaBytes(l []Rela) []byte {
	w := &writer{}
	each(l, w.rela)
	return w.b
}

// entryBytes: with one behind them that ends the table.
func entryBytes(l []Entry) []byte {
	w := &writer{}
	each(l, w.entry)
	w.entry(Entry{})
	return w.b
}
