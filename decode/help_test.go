package decode_test

import (
	"encoding/hex"
	"math"
	"strings"
	"testing"

	"gangway/api"
	"gangway/decode"
	"gangway/encode"
	"gangway/forms"
)

// Both ends of what fits into four bytes with a sign.
const (
	least = -1 << 31
	most  = 1<<31 - 1
)

func reg(r int) api.Operand { return api.Operand{Kind: api.Reg, R: r} }

func imm(n int) api.Operand { return api.Operand{Kind: api.Imm, N: n} }

func target(n int) api.Operand { return api.Operand{Kind: api.Target, N: n} }

func based(base, n int) api.Operand {
	return api.Operand{Kind: api.Mem, Base: base, Index: -1, N: n}
}

func indexed(base, index, scale, n int) api.Operand {
	return api.Operand{Kind: api.Mem, Base: base, Index: index, Scale: scale, N: n}
}

func rip(n int) api.Operand {
	return api.Operand{Kind: api.Mem, Base: -1, Index: -1, Rip: true, N: n}
}

func fs(n int) api.Operand {
	return api.Operand{Kind: api.Mem, Base: -1, Index: -1, Fs: true, N: n}
}

func inst(op, size int, to, from api.Operand) api.Inst {
	return api.Inst{Op: op, Size: size, To: to, From: from}
}

// raw: bytes from their digits, with blanks wherever.
func raw(digits string) []byte {
	b, err := hex.DecodeString(strings.ReplaceAll(digits, " ", ""))
	if err != nil {
		panic(err)
	}
	return b
}

// bytesOf: of an instruction that Check takes.
func bytesOf(t *testing.T, i api.Inst) []byte {
	t.Helper()
	b, _, e := encode.Bytes(i)
	if e != api.OK {
		t.Fatalf("%+v has no bytes: %d", i, e)
	}
	return b
}

// checkOne: what stands at the beginning; with an error nothing else.
func checkOne(t *testing.T, b []byte, want api.Inst, n int, e api.Errno) {
	t.Helper()
	if i, gotN, gotE := decode.One(b, 0); i != want || gotN != n || gotE != e {
		t.Fatalf("One(% x): %+v, %d, %d; want %+v, %d, %d", b, i, gotN, gotE, want, n, e)
	}
}

// checkError: One of each of these answers it, and nothing else.
func checkError(t *testing.T, want api.Errno, list ...string) {
	t.Helper()
	for _, digits := range list {
		if i, n, e := decode.One(raw(digits), 0); i != (api.Inst{}) || n != 0 || e != want {
			t.Errorf("One(%s): %+v, %d, %d; want %d", digits, i, n, e, want)
		}
	}
}

// told: bytes, and the text of the instruction that they are.
type told struct{ digits, text string }

// checkTold: with nothing behind, with other bytes behind, and behind other bytes.
func checkTold(t *testing.T, list []told) {
	t.Helper()
	for _, c := range list {
		b := raw(c.digits)
		for _, behind := range []string{"", "00", "ff ff ff ff ff ff ff ff", "48 89 c3", "64", "90"} {
			all := append(raw("06 48"), append(b, raw(behind)...)...)
			i, n, e := decode.One(all, 2)
			text, _ := forms.Text(i)
			if e != api.OK || n != len(b) || text != c.text {
				t.Errorf("One(%s, with %q behind): %s, %d, %d; want %s", c.digits, behind, text, n, e, c.text)
			}
		}
	}
}

// numbers: at both ends of 1, 4 and 8 bytes, and one beyond.
func numbers() []int {
	return []int{math.MinInt, math.MinInt + 1, least - 1, least, least + 1, -257, -256, -129, -128, -127, -2, -1, 0, 1, 2, 31, 32, 63, 64, 127, 128, 255, 256, 0x12345678, most, most + 1, 1<<32 - 1, 1 << 32, 0x123456789abcdef0, math.MaxInt}
}

func displacements() []int {
	return []int{least, -32769, -129, -128, -1, 0, 1, 8, 127, 128, 255, 0x12345678, most}
}

func scales() []int { return []int{1, 2, 4, 8} }

// shapes: memory of each Base without an Index and with each that may be, with this displacement.
func shapes(n int) []api.Operand {
	var l []api.Operand
	for base := range 16 {
		l = append(l, based(base, n))
		for index := range 16 {
			for _, scale := range scales() {
				if index != api.Rsp {
					l = append(l, indexed(base, index, scale, n))
				}
			}
		}
	}
	return l
}

// fewMemory: some of each kind, for sweeps over much else.
func fewMemory() []api.Operand {
	return []api.Operand{
		based(0, 0), based(4, 8), based(5, 0), based(12, 0), based(13, -129), based(15, 127), based(6, most), indexed(3, 9, 2, 0), indexed(13, 12, 4, 0), indexed(8, 1, 8, 128), indexed(4, 5, 1, -128),
		rip(0), rip(most), rip(-2), fs(0), fs(-8), fs(least),
	}
}

func registers() []api.Operand {
	var l []api.Operand
	for r := range 16 {
		l = append(l, reg(r))
	}
	return l
}

// operands: some of each kind; none is the first one.
func operands() []api.Operand {
	l := append([]api.Operand{{}}, registers()...)
	for _, n := range numbers() {
		l = append(l, imm(n))
	}
	for _, n := range displacements() {
		l = append(l, target(n))
	}
	return append(l, fewMemory()...)
}

// isLeast: of numbers that have the same low bits the one that One tells.
func isLeast(i api.Inst) bool {
	n := i.From.N
	return i.From.Kind != api.Imm || i.Size == 1 && n == int(int8(n)) || i.Size == 4 && n == int(int32(n)) || i.Size == 8
}

// eachInstruction: without names: of all ops, sizes and sample operands, with all conditions, and short ones.
func eachInstruction(f func(i api.Inst)) {
	all := operands()
	for op := 1; op <= api.LastOp; op++ {
		for _, size := range []int{0, 1, 4, 8} {
			for _, to := range all {
				for _, from := range all {
					if i := inst(op, size, to, from); forms.Check(i) == api.OK && isLeast(i) {
						eachCondition(i, f)
					}
				}
			}
		}
	}
}

func eachCondition(i api.Inst, f func(i api.Inst)) {
	for cond := range 16 {
		for _, short := range []bool{false, true} {
			i.Cond, i.Short = cond, short
			if forms.Check(i) == api.OK {
				f(i)
			}
		}
	}
}
