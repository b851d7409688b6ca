package forms

import (
	"slices"
	"strings"

	"gangway/api"
)

// barred: bytes that no name has, since texts have them around names.
const barred = "(),@$%*#;:\"'"

// mayBe: an operand is held against one that has its named fields alone: so every other field is zero.
func mayBe(o api.Operand) bool {
	switch o.Kind {
	case api.None:
		return o == api.Operand{}
	case api.Reg:
		return o == api.Operand{Kind: api.Reg, R: o.R} && isRegister(o.R)
	case api.Imm:
		return o == api.Operand{Kind: api.Imm, N: o.N}
	case api.Mem:
		return memoryMayBe(o)
	case api.Target:
		return targetMayBe(o)
	}
	return false
}

func memoryMayBe(o api.Operand) bool {
	named := api.Operand{Kind: api.Mem, Base: -1, Index: -1, N: o.N, Name: o.Name, Mod: o.Mod}
	right := false
	switch {
	case o.Rip:
		named.Rip = true
		right = nameMayBe(o, api.Plain, api.GotPcrel, api.GotTpoff) && (o.Mod == api.Plain || o.N == 0)
	case o.Fs:
		named.Fs = true
		right = nameMayBe(o, api.Tpoff)
	default:
		named.Base, named.Index, named.Scale = o.Base, o.Index, o.Scale
		right = nameMayBe(o, api.Tpoff, api.Dtpoff) && isRegister(o.Base) && indexMayBe(o)
	}
	return right && o == named && fitsSigned(o.N)
}

// indexMayBe: rsp can't be an index.
func indexMayBe(o api.Operand) bool {
	if o.Index == -1 {
		return o.Scale == 0
	}
	return isRegister(o.Index) && o.Index != api.Rsp && slices.Contains([]int{1, 2, 4, 8}, o.Scale)
}

func targetMayBe(o api.Operand) bool {
	named := api.Operand{Kind: api.Target, N: o.N, Name: o.Name, Mod: o.Mod}
	return o == named && nameMayBe(o, api.Plain, api.Plt) && fitsSigned(o.N) && (o.Name == "" || o.N == 0)
}

// nameMayBe: a name with one of these mods, or neither.
func nameMayBe(o api.Operand, mods ...int) bool {
	if o.Name == "" {
		return o.Mod == 0
	}
	return slices.Contains(mods, o.Mod) && isName(o.Name)
}

func isName(name string) bool {
	if len(name) < 1 || len(name) > api.MaxName {
		return false
	}
	for at := range len(name) {
		if name[at] < 33 || name[at] > 126 || strings.IndexByte(barred, name[at]) >= 0 {
			return false
		}
	}
	return true
}

func isRegister(r int) bool { return within(r, 0, len(registers)-1) }
