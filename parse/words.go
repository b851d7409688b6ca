package parse

import "gangway/api"

// word: a text of a source, and the number that it stands for.
type word struct {
	text string
	n    int
}

type words []word

func (l words) number(text string) (int, bool) {
	for _, w := range l {
		if w.text == text {
			return w.n, true
		}
	}
	return 0, false
}

// text: "", if no word stands for the number.
func (l words) text(n int) string {
	for _, w := range l {
		if w.n == n {
			return w.text
		}
	}
	return ""
}

func dataSizes() words { return words{{".byte", 1}, {".long", 4}, {".quad", 8}} }

func bindings() words {
	return words{{".globl", api.Global}, {".weak", api.Weak}, {".local", api.Local}}
}

func symbolTypes() words {
	return words{{"notype", api.NoType}, {"object", api.Object}, {"function", api.Func}, {"tls_object", api.Tls}, {"gnu_indirect_function", api.Ifunc}}
}

func sectionTypes() words {
	return words{{"progbits", api.ProgBits}, {"nobits", api.NoBits}, {"init_array", api.InitArray}, {"fini_array", api.FiniArray}}
}

// sectionFlags: in the order in which they are written.
func sectionFlags() words {
	return words{{"a", api.Alloc}, {"w", api.Write}, {"x", api.Exec}, {"T", api.TlsFlag}}
}

func mods() words {
	return words{{"plt", api.Plt}, {"gotpcrel", api.GotPcrel}, {"gottpoff", api.GotTpoff}, {"tpoff", api.Tpoff}, {"dtpoff", api.Dtpoff}}
}

// usualArgs: the type and the flags of a section of which the name alone is told.
func usualArgs(name string) []int {
	switch name {
	case ".text":
		return []int{api.ProgBits, api.Alloc | api.Exec}
	case ".rodata":
		return []int{api.ProgBits, api.Alloc}
	case ".data":
		return []int{api.ProgBits, api.Alloc | api.Write}
	case ".bss":
		return []int{api.NoBits, api.Alloc | api.Write}
	case ".tdata":
		return []int{api.ProgBits, api.Alloc | api.Write | api.TlsFlag}
	case ".tbss":
		return []int{api.NoBits, api.Alloc | api.Write | api.TlsFlag}
	case ".init_array":
		return []int{api.InitArray, api.Alloc | api.Write}
	case ".fini_array":
		return []int{api.FiniArray, api.Alloc | api.Write}
	}
	return []int{api.ProgBits, 0}
}
