package elf

import (
	"slices"
	"strings"

	"gangway/api"
	"gangway/leb"
)

// Limits that are this layer's own.
const (
	maxSections = 28
	maxSegments = 16
	maxEntries  = 64
	maxImage    = 16 * api.MaxBytes

	greatestAlign   = 4096
	greatestRoom    = 1 << 30
	greatestAdd     = 1 << 62
	greatestAddress = 1 << 40
)

// load: the type of a segment that is loaded.
const load = 1

func within(n, least, most int) bool { return least <= n && n <= most }

func isAddress(n int) bool { return within(n, 0, greatestAddress) }

func isAlign(n int) bool { return within(n, 1, greatestAlign) && n&(n-1) == 0 }

func isAddend(n int) bool { return within(n, -greatestAdd, greatestAdd) }

func isRelocType(n int) bool { return within(n, 0, 255) }

// all: does each element hold?
func all[T any](l []T, holds func(T) bool) bool {
	return !slices.ContainsFunc(l, func(x T) bool { return !holds(x) })
}

func namesOf(l []api.Section) []string {
	var names []string
	for _, s := range l {
		names = append(names, s.Name)
	}
	return names
}

func countRelocs(l []api.Section) int {
	n := 0
	for _, s := range l {
		n += len(s.Relocs)
	}
	return n
}

// symbolNumbers: by which number a relocation tells its symbol. Local ones stand first, and so have the name that another one has, too; the empty name is nobody's.
func symbolNumbers(l []api.Symbol) map[string]int {
	numbers := map[string]int{"": 0}
	next := 1
	for _, local := range []bool{true, false} {
		for _, s := range l {
			if (s.Bind == api.Local) != local {
				continue
			}
			if _, taken := numbers[s.Name]; !taken {
				numbers[s.Name] = next
			}
			next++
		}
	}
	return numbers
}

// isObject: as far as neither the symbols nor how much there is tell.
func isObject(f api.File) bool {
	numbers := symbolNumbers(f.Symbols)
	for _, s := range f.Sections {
		isRight := func(r api.Reloc) bool {
			_, there := numbers[r.Symbol]
			return there && within(r.At, 0, s.Size) && isRelocType(r.Type) && isAddend(r.Add)
		}
		if !isSection(s) || !all(s.Relocs, isRight) {
			return false
		}
	}
	return true
}

func isSection(s api.Section) bool {
	const flags = api.Write | api.Alloc | api.Exec | api.TlsFlag
	if isTaken(s.Name) || s.Flags&^flags != 0 || !isAlign(s.Align) {
		return false
	}
	switch s.Type {
	case api.ProgBits, api.InitArray, api.FiniArray:
		return s.Size == len(s.Data)
	case api.NoBits:
		return len(s.Data) == 0 && len(s.Relocs) == 0 && within(s.Size, 0, greatestRoom)
	}
	return false
}

// isTaken: by a part that is no Section.
func isTaken(name string) bool {
	switch name {
	case symbolsName, stringsName, headNamesName:
		return true
	}
	return strings.HasPrefix(name, tablePrefix)
}

func isImage(i Image) bool {
	if !isAddress(i.Entry) || len(i.Segments) > maxSegments || !all(i.Segments, isSegment) {
		return false
	}
	loads := slices.IndexFunc(i.Segments, func(s api.Segment) bool { return s.Type != load })
	if loads < 0 {
		loads = len(i.Segments)
	}
	if loads == 0 || loads != len(i.Loads) {
		return false
	}
	isRight := func(s api.Segment) bool { return isOther(s, i.Segments[:loads]) }
	return areLoads(i.Segments[:loads], i.Loads) && all(i.Segments[loads:], isRight)
}

// isSegment: as far as it alone tells, whatever its type is.
func isSegment(s api.Segment) bool {
	return within(s.Flags, 0, 7) && isAddress(s.Addr) && isAddress(s.Memory) && isAlign(s.Align)
}

// areLoads: one behind the other, in memory and in the file.
func areLoads(l []api.Segment, loads [][]byte) bool {
	end, offset := 1, api.PageSize
	for k, s := range l {
		if s.Addr < end || s.Addr%api.PageSize != 0 || s.Align != api.PageSize {
			return false
		}
		if s.Size != len(loads[k]) || s.Size > s.Memory || s.Offset != offset {
			return false
		}
		end = s.Addr + s.Memory
		offset, _ = leb.Align(offset+s.Size, api.PageSize)
	}
	return true
}

// isOther: a segment that tells something of what is loaded.
func isOther(s api.Segment, loads []api.Segment) bool {
	at, there := offsetOf(s, loads)
	return there && s.Offset == at && within(s.Type, load+1, 1<<32-1)
}

// offsetOf: where in the file a segment begins that lies in one that is loaded; false, if it lies in none. One without bytes of its own may lie where there are none in the file; but those that have some there come first.
func offsetOf(s api.Segment, loads []api.Segment) (int, bool) {
	for _, l := range loads {
		if lies(s, l.Addr, l.Size) {
			return l.Offset + s.Addr - l.Addr, true
		}
	}
	for _, l := range loads {
		if s.Size == 0 && lies(s, l.Addr, l.Memory) {
			return l.Offset + s.Addr - l.Addr, true
		}
	}
	return 0, false
}

// lies: a segment's Addr and Size within so many bytes from an address on. A Size may be any number here: no sum is made with it.
func lies(s api.Segment, addr, size int) bool {
	return s.Addr >= addr && within(s.Size, 0, addr+size-s.Addr)
}

func isRela(r Rela) bool { return isAddress(r.At) && isRelocType(r.Type) && isAddend(r.Add) }

// isEntry: with a Tag of its own, since 0 ends the table.
func isEntry(x Entry) bool { return x.Tag != 0 && isAddress(x.Tag) && isAddress(x.Value) }
