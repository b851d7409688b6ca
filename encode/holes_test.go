package encode_test

import (
	"slices"
	"strings"
	"testing"

	"gangway/api"
	"gangway/encode"
)

// TestP401Holes: each Mod, in memory and in a Target, with numbers behind and without.
func TestP401Holes(t *testing.T) {
	none := api.Operand{}
	x := func(n, mod int) api.Operand { return named(rip(n), "x", mod) }
	jump := inst(api.Jmp, 8, to("f", api.Plain), none)
	branch := when(inst(api.Jcc, 8, to("f", api.Plain), none), 4)
	plt := inst(api.Jmp, 8, to("f", api.Plt), none)
	for _, c := range []struct {
		i    api.Inst
		want api.Hole
	}{
		{inst(api.Lea, 8, reg(7), named(rip(0), "f", api.Plain)), api.Hole{At: 3, Size: 4, Type: api.RPc32, Name: "f", Add: -4}},
		{inst(api.Lea, 4, reg(7), x(0, api.Plain)), api.Hole{At: 2, Size: 4, Type: api.RPc32, Name: "x", Add: -4}},
		{inst(api.Lea, 8, reg(7), x(100, api.Plain)), api.Hole{At: 3, Size: 4, Type: api.RPc32, Name: "x", Add: 96}},
		{inst(api.Lea, 8, reg(7), x(least, api.Plain)), api.Hole{At: 3, Size: 4, Type: api.RPc32, Name: "x", Add: least - 4}},
		{inst(api.Lea, 8, reg(7), x(most, api.Plain)), api.Hole{At: 3, Size: 4, Type: api.RPc32, Name: "x", Add: most - 4}},
		{inst(api.Mov, 4, x(0, api.Plain), imm(5)), api.Hole{At: 2, Size: 4, Type: api.RPc32, Name: "x", Add: -8}},
		{inst(api.Mov, 1, x(0, api.Plain), imm(5)), api.Hole{At: 2, Size: 4, Type: api.RPc32, Name: "x", Add: -5}},
		{inst(api.Add, 8, x(7, api.Plain), imm(5)), api.Hole{At: 3, Size: 4, Type: api.RPc32, Name: "x", Add: 2}},
		{inst(api.Add, 8, x(7, api.Plain), imm(500)), api.Hole{At: 3, Size: 4, Type: api.RPc32, Name: "x", Add: -1}},
		{inst(api.Shl, 8, x(0, api.Plain), imm(1)), api.Hole{At: 3, Size: 4, Type: api.RPc32, Name: "x", Add: -5}},
		{inst(api.Push, 8, none, x(0, api.GotPcrel)), api.Hole{At: 2, Size: 4, Type: api.RGotPcrel, Name: "x", Add: -4}},
		{inst(api.Mov, 8, reg(0), x(0, api.GotPcrel)), api.Hole{At: 3, Size: 4, Type: api.RGotPcrel, Name: "x", Add: -4}},
		{inst(api.Cmp, 8, x(0, api.GotPcrel), imm(0)), api.Hole{At: 3, Size: 4, Type: api.RGotPcrel, Name: "x", Add: -5}},
		{inst(api.Mov, 8, reg(0), x(0, api.GotTpoff)), api.Hole{At: 3, Size: 4, Type: api.RGotTpoff, Name: "x", Add: -4}},
		{inst(api.Cmp, 8, x(0, api.GotTpoff), imm(128)), api.Hole{At: 3, Size: 4, Type: api.RGotTpoff, Name: "x", Add: -8}},
		{inst(api.Mov, 8, reg(0), named(fs(0), "x", api.Tpoff)), api.Hole{At: 5, Size: 4, Type: api.RTpoff32, Name: "x"}},
		{inst(api.Mov, 4, named(fs(-6), "x", api.Tpoff), imm(1)), api.Hole{At: 4, Size: 4, Type: api.RTpoff32, Name: "x", Add: -6}},
		{inst(api.Mov, 4, reg(0), named(based(0, 9), "x", api.Tpoff)), api.Hole{At: 2, Size: 4, Type: api.RTpoff32, Name: "x", Add: 9}},
		{inst(api.Lea, 8, reg(0), named(based(4, 0), "x", api.Dtpoff)), api.Hole{At: 4, Size: 4, Type: api.RDtpoff32, Name: "x"}},
		{inst(api.Add, 8, named(indexed(9, 8, 2, -5), "x", api.Dtpoff), imm(1)), api.Hole{At: 4, Size: 4, Type: api.RDtpoff32, Name: "x", Add: -5}},
		{inst(api.Call, 8, to("f", api.Plain), none), api.Hole{At: 1, Size: 4, Type: api.RPc32, Name: "f", Add: -4}},
		{inst(api.Call, 8, to("f", api.Plt), none), api.Hole{At: 1, Size: 4, Type: api.RPlt32, Name: "f", Add: -4}},
		{inst(api.Call, 8, x(0, api.GotPcrel), none), api.Hole{At: 2, Size: 4, Type: api.RGotPcrel, Name: "x", Add: -4}},
		{jump, api.Hole{At: 1, Size: 4, Type: api.RPc32, Name: "f", Add: -4}},
		{plt, api.Hole{At: 1, Size: 4, Type: api.RPlt32, Name: "f", Add: -4}},
		{short(jump), api.Hole{At: 1, Size: 1, Type: api.RNone, Name: "f", Add: -1}},
		{short(plt), api.Hole{At: 1, Size: 1, Type: api.RNone, Name: "f", Add: -1}},
		{branch, api.Hole{At: 2, Size: 4, Type: api.RPc32, Name: "f", Add: -4}},
		{short(branch), api.Hole{At: 1, Size: 1, Type: api.RNone, Name: "f", Add: -1}},
	} {
		if _, h, e := encode.Bytes(c.i); !slices.Equal(h, []api.Hole{c.want}) || e != api.OK {
			t.Errorf("Bytes(%+v): %v, %d; want %v", c.i, h, e, c.want)
		}
	}
}

// TestP401NoHoles: without a name there is none.
func TestP401NoHoles(t *testing.T) {
	count := 0
	eachInstruction(func(i api.Inst) {
		_, h, _ := encode.Bytes(i)
		if has := i.To.Name != "" || i.From.Name != ""; has && len(h) != 1 || !has && len(h) != 0 {
			t.Fatalf("Bytes(%+v): %v", i, h)
		}
		count += len(h)
	})
	if count == 0 {
		t.Error("no holes")
	}
}

// TestP407Hole: the bytes at a hole are 0 and lie within the others, which are the same for any Name, whatever N is.
func TestP407Hole(t *testing.T) {
	eachInstruction(func(i api.Inst) {
		b, h, _ := encode.Bytes(i)
		if len(h) == 0 {
			return
		}
		at := h[0].At
		if at < 1 || at+h[0].Size > len(b) || slices.ContainsFunc(b[at:at+h[0].Size], func(x byte) bool { return x != 0 }) {
			t.Fatalf("Bytes(%+v): %s, %v", i, encode.Text(b), h)
		}
		for _, name := range []string{"a", "main", ".L1", strings.Repeat("n", api.MaxName)} {
			checkRenamed(t, i, name, b, h[0])
		}
	})
}

func checkRenamed(t *testing.T, i api.Inst, name string, want []byte, h api.Hole) {
	t.Helper()
	for _, o := range []*api.Operand{&i.To, &i.From} {
		if o.Name != "" {
			o.Name = name
		}
	}
	h.Name = name
	if b, holes, e := encode.Bytes(i); !slices.Equal(b, want) || !slices.Equal(holes, []api.Hole{h}) || e != api.OK {
		t.Fatalf("Bytes(%+v): %v, %v, %d; want %v, %v", i, b, holes, e, want, h)
	}
}

// TestP407AnyNumber: beside a name N is told by the hole alone.
func TestP407AnyNumber(t *testing.T) {
	for _, o := range []api.Operand{named(rip(0), "x", api.Plain), named(fs(0), "x", api.Tpoff), named(based(5, 0), "x", api.Tpoff), named(indexed(4, 5, 8, 0), "x", api.Dtpoff)} {
		first, holes, _ := encode.Bytes(inst(api.Mov, 8, reg(1), o))
		for _, n := range displacements() {
			o.N = n
			b, h, e := encode.Bytes(inst(api.Mov, 8, reg(1), o))
			if !slices.Equal(b, first) || len(h) != 1 || h[0].Add != holes[0].Add+n || e != api.OK {
				t.Errorf("%+v: %v, %v, %d", o, b, h, e)
			}
		}
	}
}
