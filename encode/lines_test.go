package encode_test

import (
	"slices"
	"strconv"
	"strings"
	"testing"

	"gangway/api"
)

// line: of the chapter's table of instructions, which the tests write bytes by in a way of their own: by texts of bits.
// to, from: as the chapter calls them. codes: digits of 16, of Size 1 and of others (one: of all), with W, +r or +c behind. reg: "To", "From", or the digit. rm: "To", "From" or none. number: how many bytes (1-4: of Size 1, and of others).
type line struct {
	ops             []int
	to, from, sizes string
	codes           string
	reg, rm, number string
}

func lines() []line {
	l := []line{
		{[]int{api.Mov}, "r/m", "r", "1 4 8", "88,89 W", "From", "To", ""},
		{[]int{api.Mov}, "r", "m", "1 4 8", "8a,8b W", "To", "From", ""},
		{[]int{api.Mov}, "r", "fitting", "1 4", "b0,b8 +r", "", "", "1-4"},
		{[]int{api.Mov}, "r", "fitting", "8", "c6,c7 W", "0", "To", "1-4"},
		{[]int{api.Mov}, "m", "fitting", "1 4 8", "c6,c7 W", "0", "To", "1-4"},
		{[]int{api.Mov}, "r", "not fitting", "8", "b8 +r W", "", "", "8"},
		{[]int{api.Lea}, "r", "m", "4 8", "8d W", "To", "From", ""},
		{[]int{api.Test}, "r/m", "r", "1 4 8", "84,85 W", "From", "To", ""},
		{[]int{api.Test}, "r/m", "fitting", "1 4 8", "f6,f7 W", "0", "To", "1-4"},
		{[]int{api.Imul}, "r", "r/m", "4 8", "0faf W", "To", "From", ""},
		{[]int{api.Not}, "r/m", "none", "1 4 8", "f6,f7 W", "2", "To", ""},
		{[]int{api.Neg}, "r/m", "none", "1 4 8", "f6,f7 W", "3", "To", ""},
		{[]int{api.Inc}, "r/m", "none", "1 4 8", "fe,ff W", "0", "To", ""},
		{[]int{api.Dec}, "r/m", "none", "1 4 8", "fe,ff W", "1", "To", ""},
		{[]int{api.Push}, "none", "r", "8", "50 +r", "", "", ""},
		{[]int{api.Push}, "none", "m", "8", "ff", "6", "From", ""},
		{[]int{api.Push}, "none", "short", "8", "6a", "", "", "1"},
		{[]int{api.Push}, "none", "not short", "8", "68", "", "", "4"},
		{[]int{api.Pop}, "r", "none", "8", "58 +r", "", "", ""},
		{[]int{api.Pop}, "m", "none", "8", "8f", "0", "To", ""},
		{[]int{api.Call}, "target", "none", "8", "e8", "", "", "4"},
		{[]int{api.Call}, "r/m", "none", "8", "ff", "2", "To", ""},
		{[]int{api.Jmp}, "short target", "none", "8", "eb", "", "", "1"},
		{[]int{api.Jmp}, "target", "none", "8", "e9", "", "", "4"},
		{[]int{api.Jmp}, "r/m", "none", "8", "ff", "4", "To", ""},
		{[]int{api.Jcc}, "short target", "none", "8", "70 +c", "", "", "1"},
		{[]int{api.Jcc}, "target", "none", "8", "0f80 +c", "", "", "4"},
		{[]int{api.Setcc}, "r/m", "none", "1", "0f90 +c", "0", "To", ""},
		{[]int{api.Cmov}, "r", "r/m", "4 8", "0f40 +c W", "To", "From", ""},
		{[]int{api.Movzx}, "r", "r/m", "4 8", "0fb6 W", "To", "From", ""},
		{[]int{api.Movsx}, "r", "r/m", "4 8", "0fbe W", "To", "From", ""},
		{[]int{api.Xchg}, "r/m", "r", "4 8", "87 W", "From", "To", ""},
		{[]int{api.Ret}, "none", "none", "0", "c3", "", "", ""},
		{[]int{api.Leave}, "none", "none", "0", "c9", "", "", ""},
		{[]int{api.Nop}, "none", "none", "0", "90", "", "", ""},
		{[]int{api.Cqo}, "none", "none", "0", "4899", "", "", ""},
		{[]int{api.Ud2}, "none", "none", "0", "0f0b", "", "", ""},
		{[]int{api.Syscall}, "none", "none", "0", "0f05", "", "", ""},
	}
	for k, codes := range []string{"00,01 02,03", "08,09 0a,0b", "10,11 12,13", "18,19 1a,1b", "20,21 22,23", "28,29 2a,2b", "30,31 32,33", "38,39 3a,3b"} {
		op, digit := sums()[k:k+1], strconv.Itoa(k)
		l = append(l,
			line{op, "r/m", "r", "1 4 8", codes[:5] + " W", "From", "To", ""},
			line{op, "r", "m", "1 4 8", codes[6:] + " W", "To", "From", ""},
			line{op, "r/m", "fitting", "1", "80", digit, "To", "1"},
			line{op, "r/m", "short", "4 8", "83 W", digit, "To", "1"},
			line{op, "r/m", "not short", "4 8", "81 W", digit, "To", "4"})
	}
	for k, digit := range []string{"4", "5", "7"} {
		op := shifts()[k : k+1]
		l = append(l,
			line{op, "r/m", "count", "1 4 8", "c0,c1 W", digit, "To", "1"},
			line{op, "r/m", "rcx", "1 4 8", "d2,d3 W", digit, "To", ""})
	}
	return l
}

// suits: whether an operand is what a line calls it, in an instruction that Check takes.
func suits(o api.Operand, word string, i api.Inst) bool {
	n, fits := o.N, between(o.N, -2147483648, 2147483647)
	switch i.Size {
	case 1:
		fits = between(n, -128, 255)
	case 4:
		fits = between(n, -2147483648, 4294967295)
	}
	signed := n
	if i.Size == 4 && n >= 2147483648 {
		signed = n - 4294967296
	}
	isShort := between(signed, -128, 127)
	switch word {
	case "r":
		return o.Kind == api.Reg
	case "m":
		return o.Kind == api.Mem
	case "r/m":
		return o.Kind == api.Reg || o.Kind == api.Mem
	case "none":
		return o.Kind == api.None
	case "rcx":
		return o.Kind == api.Reg && o.R == 1
	case "fitting":
		return o.Kind == api.Imm && fits
	case "not fitting":
		return o.Kind == api.Imm && !fits
	case "short":
		return o.Kind == api.Imm && fits && isShort
	case "not short":
		return o.Kind == api.Imm && fits && !isShort
	case "count":
		return o.Kind == api.Imm
	case "short target":
		return o.Kind == api.Target && i.Short
	case "target":
		return o.Kind == api.Target && !i.Short
	}
	panic(word)
}

func between(n, low, high int) bool { return n >= low && n <= high }

// lineOf: the one line that an instruction stands in.
func lineOf(t testing.TB, all []line, i api.Inst) line {
	t.Helper()
	var found []line
	for _, l := range all {
		if slices.Contains(l.ops, i.Op) && slices.Contains(strings.Fields(l.sizes), strconv.Itoa(i.Size)) && suits(i.To, l.to, i) && suits(i.From, l.from, i) {
			found = append(found, l)
		}
	}
	if len(found) != 1 {
		t.Fatalf("%+v: %d lines", i, len(found))
	}
	return found[0]
}

// pick: the operand that a line names.
func pick(i api.Inst, word string) api.Operand {
	switch word {
	case "To":
		return i.To
	case "From":
		return i.From
	}
	return api.Operand{}
}

// wanted: the bytes as texts of bits of the line, one behind the other, and the hole.
func (l line) wanted(i api.Inst) ([]byte, []api.Hole) {
	code, behind, _ := strings.Cut(l.codes, " ")
	rm, reg := pick(i, l.rm), l.regBits(i)
	var out []byte
	if i.To.Fs || i.From.Fs {
		out = append(out, 0x64)
	}
	opcode, plus := l.opcode(i, code, behind)
	rex := "0100" + bit(i.Size == 8 && strings.Contains(behind, "W")) + reg[:1] + bit(rm.Kind == api.Mem && rm.Index > 7) + bit(plus > 7 || rm.Kind == api.Reg && rm.R > 7 || rm.Kind == api.Mem && rm.Base > 7)
	if rex != "01000000" || hasOddByte(i) {
		out = append(out, byteOf(rex))
	}
	out = append(out, opcode...)
	displacement, number := 0, l.numberBytes(i)
	if l.rm != "" {
		var b []byte
		b, displacement = modBytes(reg[1:], rm)
		out = append(out, b...)
	}
	n := i.From.N
	if i.To.Kind == api.Target {
		n = i.To.N
	}
	out = appendLow(out, n, number)
	return out, wantedHoles(i, rm, len(out), displacement, number)
}

// opcode: its bytes, and the register that stands in them.
func (l line) opcode(i api.Inst, code, behind string) (b []byte, plus int) {
	if one, other, two := strings.Cut(code, ","); two {
		code = other
		if i.Size == 1 {
			code = one
		}
	}
	for ; code != ""; code = code[2:] {
		n, _ := strconv.ParseUint(code[:2], 16, 8)
		b = append(b, byte(n))
	}
	if strings.Contains(behind, "+c") {
		b[len(b)-1] += byte(i.Cond)
	}
	if strings.Contains(behind, "+r") {
		plus = i.To.R + i.From.R
		b[len(b)-1] += byte(plus % 8)
	}
	return b, plus
}

// regBits: four of them.
func (l line) regBits(i api.Inst) string {
	switch l.reg {
	case "To", "From":
		return bitsOf(pick(i, l.reg).R, 4)
	}
	digit, _ := strconv.Atoi(l.reg)
	return bitsOf(digit, 4)
}

func (l line) numberBytes(i api.Inst) int {
	word := l.number
	if word == "1-4" {
		word = "4"
		if i.Size == 1 {
			word = "1"
		}
	}
	n, _ := strconv.Atoi(word)
	return n
}

// hasOddByte: spl, bpl, sil, dil.
func hasOddByte(i api.Inst) bool {
	odd := func(o api.Operand) bool { return o.Kind == api.Reg && between(o.R, 4, 7) }
	switch i.Op {
	case api.Movzx, api.Movsx:
		return odd(i.From)
	}
	return i.Size == 1 && (odd(i.To) || odd(i.From))
}

// modBytes: ModRM, SIB and displacement, and how long the last one is.
func modBytes(reg string, o api.Operand) (b []byte, displacement int) {
	switch {
	case o.Kind == api.Reg:
		return []byte{byteOf("11" + reg + bitsOf(o.R, 3))}, 0
	case o.Rip:
		return appendShown([]byte{byteOf("00" + reg + "101")}, o, 4), 4
	case o.Fs:
		return appendShown([]byte{byteOf("00" + reg + "100"), 0x25}, o, 4), 4
	}
	mod := "10"
	displacement = 4
	if o.Name == "" && o.N >= -128 && o.N <= 127 {
		mod, displacement = "01", 1
		if o.N == 0 && o.Base != 5 && o.Base != 13 {
			mod, displacement = "00", 0
		}
	}
	switch {
	case o.Index >= 0:
		scale := map[int]string{1: "00", 2: "01", 4: "10", 8: "11"}[o.Scale]
		b = []byte{byteOf(mod + reg + "100"), byteOf(scale + bitsOf(o.Index, 3) + bitsOf(o.Base, 3))}
	case o.Base == 4 || o.Base == 12:
		b = []byte{byteOf(mod + reg + "100"), 0x24}
	default:
		b = []byte{byteOf(mod + reg + bitsOf(o.Base, 3))}
	}
	return appendShown(b, o, displacement), displacement
}

func appendShown(b []byte, o api.Operand, size int) []byte {
	if o.Name != "" {
		return appendLow(b, 0, size)
	}
	return appendLow(b, o.N, size)
}

func appendLow(b []byte, n, size int) []byte {
	for k := range size {
		b = append(b, byte(uint64(n)>>(8*k)))
	}
	return b
}

func wantedHoles(i api.Inst, rm api.Operand, length, displacement, number int) []api.Hole {
	if i.To.Kind == api.Target && i.To.Name != "" {
		h := api.Hole{At: length - number, Size: number, Name: i.To.Name, Type: api.RPc32, Add: -4}
		if i.To.Mod == api.Plt {
			h.Type = api.RPlt32
		}
		if i.Short {
			h.Type, h.Add = api.RNone, -1
		}
		return []api.Hole{h}
	}
	if rm.Name == "" {
		return nil
	}
	n := displacement + number
	h := api.Hole{At: length - n, Size: 4, Name: rm.Name, Add: rm.N - n}
	switch rm.Mod {
	case api.Plain:
		h.Type = api.RPc32
	case api.GotPcrel:
		h.Type = api.RGotPcrel
	case api.GotTpoff:
		h.Type = api.RGotTpoff
	case api.Tpoff:
		h.Type, h.Add = api.RTpoff32, rm.N
	case api.Dtpoff:
		h.Type, h.Add = api.RDtpoff32, rm.N
	}
	return []api.Hole{h}
}

func bit(set bool) string {
	if set {
		return "1"
	}
	return "0"
}

// bitsOf: so many low bits of a number.
func bitsOf(n, count int) string {
	text := ""
	for ; count > 0; count-- {
		text = bit(n%2 == 1) + text
		n /= 2
	}
	return text
}

func byteOf(bits string) byte {
	n, e := strconv.ParseUint(bits, 2, 8)
	if e != nil || len(bits) != 8 {
		panic(bits)
	}
	return byte(n)
}
