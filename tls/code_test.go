package tls_test

import (
	"math"
	"strings"
	"testing"

	"gangway/api"
	"gangway/encode"
	"gangway/object"
	"gangway/tls"
)

func hole(at, kind int, name string, add int) api.Hole {
	return api.Hole{At: at, Size: 4, Type: kind, Name: name, Add: add}
}

func TestP2102Code(t *testing.T) {
	checkCode(t, tls.Global, 0, "x", []byte{102, 72, 141, 61, 0, 0, 0, 0, 102, 102, 72, 232, 0, 0, 0, 0},
		[]api.Hole{hole(4, api.RTlsgd, "x", -4), hole(12, api.RPlt32, callee, -4)}, api.OK)
	checkCode(t, tls.Local, 0, "x", []byte{0x48, 0x8d, 0x3d, 0, 0, 0, 0, 0xe8, 0, 0, 0, 0},
		[]api.Hole{hole(3, api.RTlsld, "x", -4), hole(8, api.RPlt32, callee, -4)}, api.OK)
	checkCode(t, tls.Initial, 9, "x", []byte{76, 139, 13, 0, 0, 0, 0}, []api.Hole{hole(3, api.RGotTpoff, "x", -4)}, api.OK)
	checkCode(t, tls.Initial, 0, "some name", []byte{0x48, 0x8b, 0x05, 0, 0, 0, 0}, []api.Hole{hole(3, api.RGotTpoff, "some name", -4)}, api.OK)
	checkCode(t, tls.Initial, 15, "x", []byte{0x4c, 0x8b, 0x3d, 0, 0, 0, 0}, []api.Hole{hole(3, api.RGotTpoff, "x", -4)}, api.OK)
	checkCode(t, tls.Exec, 0, "x", []byte{0x48, 0xc7, 0xc0, 0, 0, 0, 0}, []api.Hole{hole(3, api.RTpoff32, "x", 0)}, api.OK)
	checkCode(t, tls.Exec, 7, "x", []byte{0x48, 0xc7, 0xc7, 0, 0, 0, 0}, []api.Hole{hole(3, api.RTpoff32, "x", 0)}, api.OK)
	checkCode(t, tls.Exec, 8, "x", []byte{0x49, 0xc7, 0xc0, 0, 0, 0, 0}, []api.Hole{hole(3, api.RTpoff32, "x", 0)}, api.OK)
}

// TestP2102All: each model and register, and numbers that are none.
func TestP2102All(t *testing.T) {
	numbers := []int{math.MinInt, -1 << 32, -2, -1, 1 << 32, 1<<32 + 1, math.MaxInt}
	for n := range 40 {
		numbers = append(numbers, n)
	}
	for _, model := range numbers {
		for _, reg := range numbers {
			want, holes, e := modelCode(model, reg, "x")
			checkCode(t, model, reg, "x", want, holes, e)
			checkCode(t, model, reg, "", nil, nil, api.ErrArg)
		}
	}
	for _, model := range []int{tls.Global, tls.Local} {
		checkCode(t, model, 1, "x", nil, nil, api.ErrArg)
		checkCode(t, model, 15, "x", nil, nil, api.ErrArg)
		checkCode(t, model, -1, "x", nil, nil, api.ErrArg)
	}
	for _, model := range []int{tls.Initial, tls.Exec} {
		checkCode(t, model, 16, "x", nil, nil, api.ErrArg)
		checkCode(t, model, -1, "x", nil, nil, api.ErrArg)
	}
}

// TestP2102Names: from 1 to 255 bytes, whichever they are.
func TestP2102Names(t *testing.T) {
	for _, model := range models() {
		for _, name := range []string{"", "x", " ", "\x00", "\xff\xfe", "a,b", callee, strings.Repeat("x", 254), strings.Repeat("x", 255), strings.Repeat("x", 256), strings.Repeat("ä", 127), strings.Repeat("ä", 128), strings.Repeat("x", 70000)} {
			want, holes, e := modelCode(model, 0, name)
			checkCode(t, model, 0, name, want, holes, e)
			if is := len(name) >= 1 && len(name) <= 255; is != (e == api.OK) {
				t.Error(model, short(name), e)
			}
		}
	}
}

// TestP2102AsEncoded: Initial is what encode writes of the instruction, and Exec that of a number, but for the hole.
func TestP2102AsEncoded(t *testing.T) {
	for reg := range 16 {
		to := api.Operand{Kind: api.Reg, R: reg}
		from := api.Operand{Kind: api.Mem, Base: -1, Index: -1, Rip: true, Name: "v", Mod: api.GotTpoff}
		b, holes, e := encode.Bytes(api.Inst{Op: api.Mov, Size: 8, To: to, From: from})
		checkCode(t, tls.Initial, reg, "v", b, holes, e)
		b, _, e = encode.Bytes(api.Inst{Op: api.Mov, Size: 8, To: to, From: api.Operand{Kind: api.Imm}})
		checkCode(t, tls.Exec, reg, "v", b, []api.Hole{hole(3, api.RTpoff32, "v", 0)}, e)
	}
}

// TestP2102AsAssembled: Global and Local are what their directives are assembled to; of Local the name is the library's there.
func TestP2102AsAssembled(t *testing.T) {
	for text, code := range map[string][2]any{".tlsgd v": {tls.Global, "v"}, ".tlsld": {tls.Local, callee}} {
		f, _, e := object.Assemble(text)
		if e != api.OK || len(f.Sections) != 1 {
			t.Fatal(text, f, e)
		}
		var holes []api.Hole
		for _, r := range f.Sections[0].Relocs {
			holes = append(holes, hole(r.At, r.Type, r.Symbol, r.Add))
		}
		checkCode(t, code[0].(int), 0, code[1].(string), f.Sections[0].Data, holes, api.OK)
	}
}
