package forms

import "strings"

// width: a size in bytes, and the letter that a name ends with, where it tells the size.
type width struct {
	size   int
	letter string
}

var widths = [3]width{{8, "q"}, {4, "l"}, {1, "b"}}

// registers: by number, of each the names in the order of widths.
var registers = [16][3]string{
	{"rax", "eax", "al"}, {"rcx", "ecx", "cl"}, {"rdx", "edx", "dl"}, {"rbx", "ebx", "bl"},
	{"rsp", "esp", "spl"}, {"rbp", "ebp", "bpl"}, {"rsi", "esi", "sil"}, {"rdi", "edi", "dil"},
	{"r8", "r8d", "r8b"}, {"r9", "r9d", "r9b"}, {"r10", "r10d", "r10b"}, {"r11", "r11d", "r11b"},
	{"r12", "r12d", "r12b"}, {"r13", "r13d", "r13b"}, {"r14", "r14d", "r14b"}, {"r15", "r15d", "r15b"},
}

var conditions = [16]string{"o", "no", "b", "ae", "e", "ne", "be", "a", "s", "ns", "p", "np", "l", "ge", "le", "g"}

// form, register: what a name tells.
type form struct {
	op, size, cond int
}

type register struct {
	r, size int
}

// placeOf: where a size stands in widths, -1 if it is none.
func placeOf(size int) int {
	for at, w := range widths {
		if w.size == size {
			return at
		}
	}
	return -1
}

// name: of a size and a condition that the op has.
func (r row) name(size, cond int) string {
	name := r.stem
	if r.conditional {
		name += conditions[cond]
	}
	if r.lettered {
		name += widths[placeOf(size)].letter
	}
	return name
}

// formsLike: the names of ops whose stem begins that name: a map of all would be made at each call, for one question.
func formsLike(name string) map[string]form {
	found := map[string]form{}
	for op, r := range table() {
		if !strings.HasPrefix(name, r.stem) {
			continue
		}
		for _, size := range [4]int{0, 1, 4, 8} {
			for cond := 0; r.has(size, cond); cond++ {
				found[r.name(size, cond)] = form{op, size, cond}
			}
		}
	}
	return found
}

func registersByName() map[string]register {
	found := make(map[string]register, len(registers)*len(widths))
	for r, names := range registers {
		for at, name := range names {
			found[name] = register{r, widths[at].size}
		}
	}
	return found
}
