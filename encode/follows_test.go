package encode_test

import (
	"sort"
	"strings"
	"testing"

	"gangway/api"
	"gangway/encode"
)

// all: the bytes of many instructions, of each op with each sample, and of Mov and Add with all memory.
func all() map[string][]api.Inst {
	out := map[string][]api.Inst{}
	add := func(i api.Inst) {
		b, _, _ := encode.Bytes(i)
		out[string(b)] = append(out[string(b)], i)
	}
	eachInstruction(add)
	for _, m := range memory() {
		for _, size := range []int{1, 4, 8} {
			add(inst(api.Mov, size, m, reg(12)))
			add(inst(api.Mov, size, reg(5), m))
			add(inst(api.Add, size, m, imm(-1)))
			add(inst(api.Add, size, m, imm(100)))
		}
		add(inst(api.Jmp, 8, m, api.Operand{}))
	}
	for cond := range 16 {
		for _, o := range operands() {
			for _, i := range []api.Inst{inst(api.Jcc, 8, o, api.Operand{}), short(inst(api.Jcc, 8, o, api.Operand{})), inst(api.Setcc, 1, o, api.Operand{}), inst(api.Cmov, 4, reg(8), o), inst(api.Cmov, 8, o, reg(2))} {
				if _, _, e := encode.Bytes(when(i, cond)); e == api.OK && cond > 0 {
					add(when(i, cond))
				}
			}
		}
	}
	delete(out, "")
	return out
}

func TestP404AtMostFifteen(t *testing.T) {
	eachInstruction(func(i api.Inst) {
		b, _, e := encode.Bytes(i)
		n, el := encode.Length(i)
		if len(b) < 1 || len(b) > 15 || n != len(b) || e != api.OK || el != api.OK {
			t.Fatalf("%+v: %v, %d", i, b, n)
		}
	})
	longest := inst(api.Mov, 8, named(fs(0), "x", api.Tpoff), imm(1))
	if n, _ := encode.Length(longest); n != 13 {
		t.Errorf("Length(%+v): %d", longest, n)
	}
}

// TestP405NoneWithinAnother: among sorted texts one that another begins with stands right ahead of such a one.
func TestP405NoneWithinAnother(t *testing.T) {
	var list []string
	bytesOf := all()
	for b := range bytesOf {
		list = append(list, b)
	}
	if len(list) < 30000 {
		t.Errorf("%d", len(list))
	}
	sort.Strings(list)
	for k := 1; k < len(list); k++ {
		if strings.HasPrefix(list[k], list[k-1]) {
			t.Fatalf("%+v is within %+v", bytesOf[list[k-1]][0], bytesOf[list[k]][0])
		}
	}
}

// plain: an instruction without what its bytes do not tell: names, and of numbers of 1 and 4 bytes all but the low bits.
func plain(i api.Inst) api.Inst {
	for _, o := range []*api.Operand{&i.To, &i.From} {
		switch {
		case o.Name != "":
			o.Name, o.Mod, o.N = "", 0, 0
		case o.Kind == api.Imm && i.Size == 1:
			o.N &= 255
		case o.Kind == api.Imm && i.Size == 4:
			o.N &= 1<<32 - 1
		}
	}
	return i
}

func TestP406UnlikeOnes(t *testing.T) {
	alike := 0
	for b, list := range all() {
		for _, i := range list {
			if plain(i) != plain(list[0]) {
				t.Fatalf("%s: %+v and %+v", encode.Text([]byte(b)), list[0], i)
			}
			if i != list[0] {
				alike++
			}
		}
	}
	if alike == 0 {
		t.Error("no two have the same bytes")
	}
}

// TestP406LowBits: numbers of Size 1 and 4 with the same low bits have the same bytes.
func TestP406LowBits(t *testing.T) {
	for _, op := range append(sums(), api.Mov, api.Test) {
		for _, o := range append(registers(), fewMemory()...) {
			for _, c := range []struct{ size, one, other int }{{1, -1, 255}, {1, -128, 128}, {4, -1, 1<<32 - 1}, {4, -128, 1<<32 - 128}, {4, -129, 1<<32 - 129}, {4, least, 1 << 31}} {
				a, _, ea := encode.Bytes(inst(op, c.size, o, imm(c.one)))
				b, _, eb := encode.Bytes(inst(op, c.size, o, imm(c.other)))
				if string(a) != string(b) || ea != api.OK || eb != api.OK {
					t.Errorf("%d of %+v, %+v: %v, %v", op, o, c, a, b)
				}
			}
		}
	}
}
