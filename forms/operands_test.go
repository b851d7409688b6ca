package forms_test

import (
	"math"
	"slices"
	"strings"
	"testing"

	"gangway/api"
	"gangway/forms"
)

// inMemory: an instruction that takes any memory that may be; jumping: any Target.
func inMemory(o api.Operand) api.Inst { return api.Inst{Op: api.Mov, Size: 8, To: reg(0), From: o} }

func jumping(o api.Operand) api.Inst { return api.Inst{Op: api.Jmp, Size: 8, To: o} }

func TestP302Registers(t *testing.T) {
	for _, r := range []int{math.MinInt, -1, 0, 1, 4, 15, 16, 17, 256, 1 << 32, math.MaxInt} {
		right := r >= 0 && r <= 15
		checks(t, api.Inst{Op: api.Mov, Size: 8, To: reg(r), From: reg(0)}, right)
		checks(t, api.Inst{Op: api.Mov, Size: 1, To: reg(0), From: reg(r)}, right)
		checks(t, api.Inst{Op: api.Pop, Size: 8, To: reg(r)}, right)
	}
}

// TestP302Displacements: N at both ends and one beyond, of all kinds of memory and of a Target.
func TestP302Displacements(t *testing.T) {
	for _, c := range []struct {
		n     int
		right bool
	}{{least, true}, {most, true}, {0, true}, {-1, true}, {least - 1, false}, {most + 1, false}, {1 << 32, false}, {math.MinInt, false}, {math.MaxInt, false}} {
		for _, o := range []api.Operand{rip(c.n), fs(c.n), based(0, c.n), indexed(1, 2, 4, c.n)} {
			checks(t, inMemory(o), c.right)
		}
		for _, o := range []api.Operand{named(rip(c.n), "x", api.Plain), named(fs(c.n), "x", api.Tpoff), named(based(0, c.n), "x", api.Tpoff), named(based(0, c.n), "x", api.Dtpoff), named(indexed(1, 2, 4, c.n), "x", api.Dtpoff)} {
			checks(t, inMemory(o), c.right)
		}
		checks(t, jumping(target(c.n)), c.right)
		checks(t, api.Inst{Op: api.Call, Size: 8, To: target(c.n)}, c.right)
		checks(t, api.Inst{Op: api.Jcc, Size: 8, To: target(c.n)}, c.right)
		checks(t, jumping(named(target(c.n), "x", api.Plain)), c.n == 0)
		checks(t, jumping(named(target(c.n), "x", api.Plt)), c.n == 0)
		checks(t, inMemory(named(rip(c.n), "x", api.GotPcrel)), c.n == 0)
		checks(t, inMemory(named(rip(c.n), "x", api.GotTpoff)), c.n == 0)
	}
}

// TestP302Addresses: each Base, Index and Scale, about all ends, with each other.
func TestP302Addresses(t *testing.T) {
	wild := []int{math.MinInt, -2, -1, 17, 31, 1 << 32, math.MaxInt}
	for r := range 17 {
		wild = append(wild, r)
	}
	for _, base := range wild {
		for _, index := range wild {
			for _, scale := range []int{math.MinInt, -1, 0, 1, 2, 3, 4, 5, 6, 7, 8, 9, 16, 256 + 4, math.MaxInt} {
				single := index == -1 && scale == 0
				double := index >= 0 && index <= 15 && index != 4 && (scale == 1 || scale == 2 || scale == 4 || scale == 8)
				o := indexed(base, index, scale, 8)
				checks(t, inMemory(o), base >= 0 && base <= 15 && (single || double))
				o.Rip = true
				checks(t, inMemory(o), base == -1 && single)
				o.Fs = true
				checks(t, inMemory(o), false)
				o.Rip = false
				checks(t, inMemory(o), base == -1 && single)
			}
		}
	}
}

// carriers: an operand of each kind that may have a name, with a mod that it may have.
func carriers(name string) []api.Inst {
	return []api.Inst{
		inMemory(named(rip(0), name, api.Plain)),
		inMemory(named(rip(0), name, api.GotPcrel)),
		inMemory(named(rip(0), name, api.GotTpoff)),
		inMemory(named(fs(0), name, api.Tpoff)),
		inMemory(named(based(7, 0), name, api.Tpoff)),
		inMemory(named(indexed(7, 8, 2, 0), name, api.Dtpoff)),
		jumping(named(target(0), name, api.Plain)),
		jumping(named(target(0), name, api.Plt)),
	}
}

func TestP302NamesLengths(t *testing.T) {
	for _, length := range []int{1, 2, 100, api.MaxName - 1, api.MaxName, api.MaxName + 1, 2 * api.MaxName, 1 << 16} {
		for _, i := range carriers(strings.Repeat("n", length)) {
			checks(t, i, length <= api.MaxName)
		}
	}
	// Without a name Plain is what is left; any other mod has nothing to stand behind.
	for _, i := range carriers("") {
		checks(t, i, i.From.Mod == 0 && i.To.Mod == 0)
	}
}

// TestP302NamesBytes: each byte, at the beginning, within, at the end, and alone.
func TestP302NamesBytes(t *testing.T) {
	for c := range 256 {
		right := c >= 33 && c <= 126 && !strings.Contains("( ) , @ $ % * # ; : \" '", string(rune(c)))
		one := string([]byte{byte(c)})
		for _, name := range []string{one, one + "ab", "a" + one + "b", "ab" + one, strings.Repeat("a", api.MaxName-1) + one} {
			for _, i := range carriers(name) {
				checks(t, i, right)
			}
		}
	}
}

// TestP302Mods: each Mod, and others, with each kind of operand, with a name and without.
func TestP302Mods(t *testing.T) {
	for _, mod := range []int{math.MinInt, -1, api.Plain, api.Plt, api.GotPcrel, api.GotTpoff, api.Tpoff, api.Dtpoff, 6, 256, math.MaxInt} {
		for _, c := range []struct {
			i     func(api.Operand) api.Inst
			o     api.Operand
			right []int
		}{
			{inMemory, rip(0), []int{api.Plain, api.GotPcrel, api.GotTpoff}},
			{inMemory, fs(0), []int{api.Tpoff}},
			{inMemory, based(5, 0), []int{api.Tpoff, api.Dtpoff}},
			{inMemory, indexed(5, 5, 8, 0), []int{api.Tpoff, api.Dtpoff}},
			{jumping, target(0), []int{api.Plain, api.Plt}},
			{jumping, reg(3), nil},
			{inMemory, imm(3), nil},
			{func(o api.Operand) api.Inst { return api.Inst{Op: api.Neg, Size: 8, To: reg(0), From: o} }, api.Operand{}, nil},
		} {
			checks(t, c.i(named(c.o, "x", mod)), slices.Contains(c.right, mod))
			checks(t, c.i(named(c.o, "", mod)), mod == 0)
		}
	}
}

func TestP302Kinds(t *testing.T) {
	for _, kind := range []int{math.MinInt, -1, 5, 6, 256 + api.Reg, 1<<32 + api.Reg, math.MaxInt} {
		checks(t, api.Inst{Op: api.Mov, Size: 8, To: api.Operand{Kind: kind}, From: reg(0)}, false)
		checks(t, api.Inst{Op: api.Mov, Size: 8, To: reg(0), From: api.Operand{Kind: kind}}, false)
		checks(t, api.Inst{Op: api.Ret, To: api.Operand{Kind: kind}}, false)
		checks(t, api.Inst{Op: api.Ret, From: api.Operand{Kind: kind}}, false)
	}
}

// change: a field of an operand that is made unlike what it was.
type change struct {
	field string
	o     api.Operand
}

func changes(o api.Operand) []change {
	var l []change
	for _, n := range []int{math.MinInt, -2, -1, 1, 2, 8, 15, math.MaxInt} {
		r, base, index, scale, number, mod := o, o, o, o, o, o
		r.R, base.Base, index.Index, scale.Scale, number.N, mod.Mod = n, n, n, n, n, n
		l = append(l, change{"R", r}, change{"Base", base}, change{"Index", index}, change{"Scale", scale}, change{"N", number}, change{"Mod", mod})
	}
	rip, fs, name := o, o, o
	rip.Rip, fs.Fs, name.Name = true, true, "f"
	return append(l, change{"Rip", rip}, change{"Fs", fs}, change{"Name", name})
}

// names: which fields the document names of an operand that may be; Base and Index of memory that has neither are named, too, as -1.
func names(o api.Operand) string {
	switch {
	case o.Kind == api.Reg:
		return "R"
	case o.Kind == api.Imm:
		return "N"
	case o.Kind == api.Target && o.Name != "":
		return "Name Mod"
	case o.Kind == api.Target:
		return "N Name"
	case o.Kind == api.None:
		return ""
	}
	fields := "N Name"
	if o.Name != "" {
		fields += " Mod"
	}
	switch {
	case o.Rip && o.Mod != api.Plain:
		return "Rip Name Mod"
	case o.Rip:
		return fields + " Rip"
	case o.Fs:
		return fields + " Fs"
	case o.Index < 0:
		return fields + " Base Index"
	}
	return fields + " Base Index Scale"
}

// TestP307OtherFields: each instruction, with each field of To and of From that is not named.
func TestP307OtherFields(t *testing.T) {
	tried := map[string]int{}
	for _, i := range rightInstructions() {
		for _, c := range changes(i.To) {
			if !strings.Contains(" "+names(i.To)+" ", " "+c.field+" ") {
				other := i
				other.To = c.o
				checkNone(t, i, other)
				tried[c.field]++
			}
		}
		for _, c := range changes(i.From) {
			if !strings.Contains(" "+names(i.From)+" ", " "+c.field+" ") {
				other := i
				other.From = c.o
				checkNone(t, i, other)
				tried[c.field]++
			}
		}
	}
	if len(tried) != 9 {
		t.Error("fields that were tried:", tried)
	}
}

// checkNone: other is i with one field changed (the change may have left the field as it was: -1 of Base and Index).
func checkNone(t *testing.T, i, other api.Inst) {
	t.Helper()
	if e := forms.Check(i); e != api.OK {
		t.Fatalf("Check(%+v): %d", i, e)
	}
	if e := forms.Check(other); other != i && e != api.ErrForm {
		t.Fatalf("Check(%+v): %d", other, e)
	}
}
