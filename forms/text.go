package forms

import (
	"strconv"

	"gangway/api"
)

// modTexts: what stands behind a name, by its mod.
var modTexts = [6]string{"", "@plt", "@gotpcrel", "@gottpoff", "@tpoff", "@dtpoff"}

// fromText: some ops read a byte of a register, whatever their size is.
func fromText(i api.Inst) string {
	switch i.Op {
	case api.Movzx, api.Movsx, api.Shl, api.Shr, api.Sar:
		return operandText(i.From, 1)
	}
	return operandText(i.From, i.Size)
}

// toText: the star tells a jump to what stands in a place from one to that place.
func toText(i api.Inst) string {
	text := operandText(i.To, i.Size)
	if (i.Op == api.Call || i.Op == api.Jmp) && isPlace(i.To) {
		return "*" + text
	}
	return text
}

func operandText(o api.Operand, size int) string {
	switch o.Kind {
	case api.Reg:
		return "%" + Register(o.R, size)
	case api.Imm:
		return "$" + strconv.Itoa(o.N)
	case api.Mem:
		return memoryText(o)
	case api.Target:
		return targetText(o)
	}
	return ""
}

func memoryText(o api.Operand) string {
	text := displacementText(o)
	switch {
	case o.Fs:
		return "%fs:" + text
	case o.Rip:
		return text + "(%rip)"
	case o.Index < 0:
		return text + "(" + baseText(o) + ")"
	}
	return text + "(" + baseText(o) + ",%" + Register(o.Index, 8) + "," + strconv.Itoa(o.Scale) + ")"
}

func baseText(o api.Operand) string { return "%" + Register(o.Base, 8) }

// displacementText: a 0 is told only where nothing else would be.
func displacementText(o api.Operand) string {
	switch {
	case o.Name != "" && o.N != 0:
		return o.Name + modTexts[o.Mod] + withSign(o.N)
	case o.Name != "":
		return o.Name + modTexts[o.Mod]
	case o.N == 0 && !o.Fs:
		return ""
	}
	return strconv.Itoa(o.N)
}

func targetText(o api.Operand) string {
	if o.Name != "" {
		return o.Name + modTexts[o.Mod]
	}
	return "." + withSign(o.N)
}

func withSign(n int) string {
	if n < 0 {
		return strconv.Itoa(n)
	}
	return "+" + strconv.Itoa(n)
}
