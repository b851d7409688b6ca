package symtab_test

import (
	"encoding/binary"
	"strings"

	"gangway/api"
)

// The chapter once more, slowly: each sentence for itself, lists gone through from the front.

func modelCheck(l []api.Symbol, sections []string) api.Errno {
	tooMuch := len(l) > 2000 || len(sections) > 64
	for _, s := range l {
		tooMuch = tooMuch || len(s.Name) > 255
	}
	for _, s := range sections {
		tooMuch = tooMuch || len(s) > 255
	}
	if tooMuch {
		return api.ErrSize
	}
	for k, s := range sections {
		if s == "" || s == "*" || strings.Contains(s, "\x00") || modelNumber(s, sections[:k]) > 0 {
			return api.ErrSymbol
		}
	}
	for k, s := range l {
		if !modelSymbol(s, sections) {
			return api.ErrSymbol
		}
		for _, other := range l[:k] {
			bothOrNone := (s.Bind == 0) == (other.Bind == 0)
			if s.Name == other.Name && s.Name != "" && bothOrNone {
				return api.ErrSymbol
			}
		}
	}
	return api.OK
}

// modelNumber: the place from 1 on; 0: none.
func modelNumber(name string, sections []string) int {
	for k, s := range sections {
		if s == name {
			return k + 1
		}
	}
	return 0
}

func modelSymbol(s api.Symbol, sections []string) bool {
	there := s.Section == "" || s.Section == "*" || modelNumber(s.Section, sections) > 0
	extents := s.Value >= 0 && s.Value <= 4611686018427387904 && s.Size >= 0 && s.Size <= 4611686018427387904
	named := !strings.Contains(s.Name, "\x00") && (s.Name != "" || s.Bind == 0)
	defined := s.Section != "" || s.Bind != 0 && s.Value == 0 && s.Size == 0
	bound := s.Bind == 0 || s.Bind == 1 || s.Bind == 2
	typed := s.Type == 0 || s.Type == 1 || s.Type == 2 || s.Type == 6 || s.Type == 10
	return there && extents && named && defined && bound && typed
}

// modelSorted: Local ones first; and how many these are.
func modelSorted(l []api.Symbol) ([]api.Symbol, int) {
	var first, then []api.Symbol
	for _, s := range l {
		if s.Bind == 0 {
			first = append(first, s)
		} else {
			then = append(then, s)
		}
	}
	return append(append([]api.Symbol{}, first...), then...), len(first)
}

// modelWrite: of symbols that may be. A name begins where it stands with a byte 0 ahead and behind.
func modelWrite(l []api.Symbol, sections []string) written {
	sorted, n := modelSorted(l)
	strs := "\x00"
	syms := make([]byte, 24)
	for _, s := range sorted {
		at := 0
		if s.Name != "" {
			if !strings.Contains(strs, "\x00"+s.Name+"\x00") {
				strs += s.Name + "\x00"
			}
			at = strings.Index(strs, "\x00"+s.Name+"\x00") + 1
		}
		number := modelNumber(s.Section, sections)
		if s.Section == "*" {
			number = 65521
		}
		syms = binary.LittleEndian.AppendUint32(syms, uint32(at))
		syms = append(syms, byte(16*s.Bind+s.Type), 0)
		syms = binary.LittleEndian.AppendUint16(syms, uint16(number))
		syms = binary.LittleEndian.AppendUint64(syms, uint64(s.Value))
		syms = binary.LittleEndian.AppendUint64(syms, uint64(s.Size))
	}
	return written{syms, []byte(strs), n + 1}
}

// modelRead: bytes of at most MaxBytes. The symbols that they may be are those of which each one is what its entry tells: if these are written otherwise, no others are written so.
func modelRead(w written, sections []string) ([]api.Symbol, api.Errno) {
	var l []api.Symbol
	for b := w.syms; len(b) >= 24; b = b[24:] {
		if len(b) == len(w.syms) {
			continue
		}
		l = append(l, api.Symbol{
			Name:    modelName(w.strs, int(binary.LittleEndian.Uint32(b))),
			Bind:    int(b[4] >> 4),
			Type:    int(b[4] & 15),
			Section: modelSection(int(binary.LittleEndian.Uint16(b[6:])), sections),
			Value:   int(binary.LittleEndian.Uint64(b[8:])),
			Size:    int(binary.LittleEndian.Uint64(b[16:])),
		})
	}
	if modelCheck(l, sections) != api.OK || !modelWrite(l, sections).is(w) {
		return nil, api.ErrSymbol
	}
	return l, api.OK
}

// modelName, modelSection: where there is none, what no symbol may have.
func modelName(strs []byte, at int) string {
	if at >= len(strs) {
		return "\x00"
	}
	name, _, found := strings.Cut(string(strs[at:]), "\x00")
	if !found {
		return "\x00"
	}
	return name
}

func modelSection(number int, sections []string) string {
	switch {
	case number == 0:
		return ""
	case number == 65521:
		return "*"
	case number > len(sections):
		return "\x00"
	}
	return sections[number-1]
}
