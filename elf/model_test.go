package elf_test

import (
	"bytes"
	"encoding/binary"
	"strings"

	"gangway/api"
	"gangway/elf"
	"gangway/symtab"
)

// The chapter once more, slowly: each sentence for itself.

func modelNames(f api.File) []string {
	var names []string
	for _, s := range f.Sections {
		names = append(names, s.Name)
	}
	return names
}

func modelCheck(f api.File) api.Errno {
	if e := symtab.Check(f.Symbols, modelNames(f)); e != api.OK {
		return e
	}
	relocs := 0
	for _, s := range f.Sections {
		relocs += len(s.Relocs)
	}
	if len(f.Sections) > 28 || relocs > 4000 {
		return api.ErrSize
	}
	for _, s := range f.Sections {
		if !modelSection(s) {
			return api.ErrElf
		}
		for _, r := range s.Relocs {
			numbers := r.At >= 0 && r.At <= s.Size && r.Type >= 0 && r.Type <= 255 && r.Add >= -1<<62 && r.Add <= 1<<62
			if !numbers || modelNumber(r.Symbol, f.Symbols) < 0 {
				return api.ErrElf
			}
		}
	}
	return api.OK
}

func modelSection(s api.Section) bool {
	named := !strings.HasPrefix(s.Name, ".rela") && s.Name != ".symtab" && s.Name != ".strtab" && s.Name != ".shstrtab"
	typed := s.Type == 1 || s.Type == 8 || s.Type == 14 || s.Type == 15
	flagged := false
	for _, write := range []int{0, 1} {
		for _, alloc := range []int{0, 2} {
			for _, exec := range []int{0, 4} {
				flagged = flagged || s.Flags == write+alloc+exec || s.Flags == write+alloc+exec+1024
			}
		}
	}
	sized := s.Size == len(s.Data)
	if s.Type == 8 {
		sized = len(s.Data) == 0 && len(s.Relocs) == 0 && s.Size >= 0 && s.Size <= 1073741824
	}
	return named && typed && flagged && sized && modelAlign(s.Align)
}

func modelAlign(n int) bool {
	for a := 1; a <= 4096; a *= 2 {
		if n == a {
			return true
		}
	}
	return false
}

// modelNumber: of a symbol in the table; -1: there is none.
func modelNumber(name string, l []api.Symbol) int {
	if name == "" {
		return 0
	}
	for k, s := range sorted(api.File{Symbols: l}).Symbols {
		if s.Name == name {
			return k + 1
		}
	}
	return -1
}

// bytesOf: numbers, each of so many bytes.
func bytesOf(size int, numbers ...int) []byte {
	var b []byte
	for _, n := range numbers {
		b = append(b, binary.LittleEndian.AppendUint64(nil, uint64(n))[:size]...)
	}
	return b
}

// modelFill: bytes 0 up to the next multiple.
func modelFill(b []byte, align int) []byte {
	for len(b)%align != 0 {
		b = append(b, 0)
	}
	return b
}

// modelHead: its numbers as they stand, the name as a name.
type modelHead struct {
	name                                              string
	kind, flags, at, size, link, info, align, entries int
}

// modelWrite: of an object that may be, and whose heads' names are not too long.
func modelWrite(f api.File) []byte {
	b := make([]byte, 64)
	var heads []modelHead
	for _, s := range f.Sections {
		entries := 0
		if s.Type == 14 || s.Type == 15 {
			entries = 8
		}
		at := len(modelFill(bytes.Clone(b), s.Align))
		if s.Type != 8 {
			b = append(modelFill(b, s.Align), s.Data...)
		}
		heads = append(heads, modelHead{s.Name, s.Type, s.Flags, at, s.Size, 0, 0, s.Align, entries})
	}
	tables := 0
	for _, s := range f.Sections {
		if len(s.Relocs) > 0 {
			tables++
		}
	}
	for k, s := range f.Sections {
		if len(s.Relocs) == 0 {
			continue
		}
		b = modelFill(b, 8)
		heads = append(heads, modelHead{".rela" + s.Name, 4, 64, len(b), 24 * len(s.Relocs), 1 + len(f.Sections) + tables, k + 1, 8, 24})
		for _, r := range s.Relocs {
			b = append(b, bytesOf(8, r.At)...)
			b = append(b, bytesOf(4, r.Type, modelNumber(r.Symbol, f.Symbols))...)
			b = append(b, bytesOf(8, r.Add)...)
		}
	}
	return modelEnd(modelFill(b, 8), f, heads)
}

// modelEnd: parts 4 and 5, and then the head.
func modelEnd(b []byte, f api.File, heads []modelHead) []byte {
	syms, strs, first, _ := symtab.Write(f.Symbols, modelNames(f))
	heads = append(heads, modelHead{".symtab", 2, 0, len(b), len(syms), len(heads) + 2, first, 8, 24})
	b = append(b, syms...)
	heads = append(heads, modelHead{".strtab", 3, 0, len(b), len(strs), 0, 0, 1, 0})
	b = append(b, strs...)
	names := "\x00"
	for _, h := range heads {
		names += h.name + "\x00"
	}
	names += ".shstrtab\x00"
	heads = append(heads, modelHead{".shstrtab", 3, 0, len(b), len(names), 0, 0, 1, 0})
	b = modelFill(append(b, names...), 8)
	head := append([]byte{127, 69, 76, 70, 2, 1, 1, 0, 0, 0, 0, 0, 0, 0, 0, 0}, bytesOf(2, 1, 62)...)
	head = append(append(head, bytesOf(4, 1)...), bytesOf(8, 0, 0, len(b))...)
	head = append(append(head, bytesOf(4, 0)...), bytesOf(2, 64, 0, 0, 64, len(heads)+1, len(heads))...)
	copy(b, head)
	b = append(b, make([]byte, 64)...)
	for _, h := range heads {
		b = append(b, bytesOf(4, strings.Index(names, "\x00"+h.name+"\x00")+1, h.kind)...)
		b = append(b, bytesOf(8, h.flags, 0, h.at, h.size)...)
		b = append(b, bytesOf(4, h.link, h.info)...)
		b = append(b, bytesOf(8, h.align, h.entries)...)
	}
	return b
}

// modelRead: bytes of at most MaxBytes. The only object that they may be is the one that their heads tell.
func modelRead(b []byte) (f api.File, e api.Errno) {
	defer func() {
		if recover() != nil { // a place that is none
			f, e = api.File{}, api.ErrElf
		}
	}()
	number := func(at, size int) int {
		return int(binary.LittleEndian.Uint64(append(bytes.Clone(b[at:at+size]), make([]byte, 8)...)))
	}
	heads, count := number(40, 8), number(60, 2)
	head := func(k int) (nameAt, kind int, rest modelHead) {
		at := heads + 64*k
		return number(at, 4), number(at+4, 4), modelHead{"", 0, number(at+8, 8), number(at+24, 8), number(at+32, 8), number(at+40, 4), number(at+44, 4), number(at+48, 8), number(at+56, 8)}
	}
	piece := func(h modelHead) []byte { return b[h.at : h.at+h.size : h.at+h.size] }
	_, _, names := head(count - 1)
	_, _, strs := head(count - 2)
	_, _, syms := head(count - 3)
	for k := 1; k < count-3; k++ {
		nameAt, kind, h := head(k)
		if kind == 4 {
			continue
		}
		name, _, _ := strings.Cut(string(piece(names)[nameAt:]), "\x00")
		s := api.Section{Name: name, Type: kind, Flags: h.flags, Align: h.align, Size: h.size}
		if kind != 8 {
			s.Data = bytes.Clone(piece(h))
		}
		f.Sections = append(f.Sections, s)
	}
	f.Symbols, e = symtab.Read(piece(syms), piece(strs), syms.info, modelNames(f))
	for k := 1; k < count-3; k++ {
		_, kind, h := head(k)
		if kind != 4 {
			continue
		}
		for at := h.at; at < h.at+h.size; at += 24 {
			r := api.Reloc{At: number(at, 8), Type: number(at+8, 4), Add: number(at+16, 8)}
			if n := number(at+12, 4); n > 0 {
				r.Symbol = f.Symbols[n-1].Name
			}
			s := &f.Sections[h.info-1]
			s.Relocs = append(s.Relocs, r)
		}
	}
	if e != api.OK || modelCheck(f) != api.OK || !bytes.Equal(modelWrite(f), b) {
		return api.File{}, api.ErrElf
	}
	return f, api.OK
}

func modelRight(i elf.Image) api.Errno {
	n := 0
	for n < len(i.Segments) && i.Segments[n].Type == 1 {
		n++
	}
	if i.Entry < 0 || i.Entry > 1<<40 || len(i.Segments) < 1 || len(i.Segments) > 16 || n < 1 || n != len(i.Loads) {
		return api.ErrElf
	}
	for k, s := range i.Segments {
		if s.Flags < 0 || s.Flags > 7 || s.Addr < 0 || s.Addr > 1<<40 || s.Memory < 0 || s.Memory > 1<<40 || !modelAlign(s.Align) {
			return api.ErrElf
		}
		right := k < n && modelLoad(i, k) || k >= n && modelOther(s, i.Segments[:n])
		if !right {
			return api.ErrElf
		}
	}
	return api.OK
}

func modelLoad(i elf.Image, k int) bool {
	s := i.Segments[k]
	end, offset := 0, 4096
	if k > 0 {
		ahead := i.Segments[k-1]
		end, offset = ahead.Addr+ahead.Memory, ahead.Offset+ahead.Size
		for offset%4096 != 0 {
			offset++
		}
	}
	return s.Align == 4096 && s.Addr%4096 == 0 && s.Addr > 0 && s.Size == len(i.Loads[k]) && s.Size <= s.Memory && s.Addr >= end && s.Offset == offset
}

func modelOther(s api.Segment, loads []api.Segment) bool {
	if s.Type < 2 || s.Type > 4294967295 || s.Size < 0 {
		return false
	}
	for _, l := range loads {
		if s.Addr >= l.Addr && s.Size <= l.Size && s.Addr+s.Size <= l.Addr+l.Size {
			return s.Offset == l.Offset+s.Addr-l.Addr
		}
	}
	for _, l := range loads {
		if s.Size == 0 && s.Addr >= l.Addr && s.Addr <= l.Addr+l.Memory {
			return s.Offset == l.Offset+s.Addr-l.Addr
		}
	}
	return false
}

// modelSave: of an image that may be.
func modelSave(i elf.Image) []byte {
	b := append([]byte{127, 69, 76, 70, 2, 1, 1, 0, 0, 0, 0, 0, 0, 0, 0, 0}, bytesOf(2, 3, 62)...)
	b = append(append(b, bytesOf(4, 1)...), bytesOf(8, i.Entry, 64, 0)...)
	b = append(append(b, bytesOf(4, 0)...), bytesOf(2, 64, 56, len(i.Segments), 64, 0, 0)...)
	for _, s := range i.Segments {
		b = append(b, bytesOf(4, s.Type, s.Flags)...)
		b = append(b, bytesOf(8, s.Offset, s.Addr, s.Addr, s.Size, s.Memory, s.Align)...)
	}
	for k, l := range i.Loads {
		for len(b) < i.Segments[k].Offset {
			b = append(b, 0)
		}
		b = append(b, l...)
	}
	return b
}

// modelOpen: bytes of at most 16 MaxBytes.
func modelOpen(b []byte) (i elf.Image, e api.Errno) {
	defer func() {
		if recover() != nil {
			i, e = elf.Image{}, api.ErrElf
		}
	}()
	i.Entry = int(binary.LittleEndian.Uint64(b[24:]))
	for k := range int(binary.LittleEndian.Uint16(b[56:])) {
		words, l := b[64+56*k:][:56], [8]int{}
		for n := range 6 {
			l[n] = int(binary.LittleEndian.Uint64(words[8+8*n:]))
		}
		s := segment(int(binary.LittleEndian.Uint32(words)), int(binary.LittleEndian.Uint32(words[4:])), l[1], l[0], l[3], l[4], l[5])
		i.Segments = append(i.Segments, s)
		if s.Type == 1 {
			i.Loads = append(i.Loads, bytes.Clone(b[s.Offset:s.Offset+s.Size]))
		}
	}
	if modelRight(i) != api.OK || !bytes.Equal(modelSave(i), b) {
		return elf.Image{}, api.ErrElf
	}
	return i, api.OK
}
