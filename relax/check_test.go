package relax_test

import (
	"math"
	"slices"
	"strings"
	"testing"

	"gangway/api"
	"gangway/relax"
)

// good is an item of each kind that may be.
func good() []relax.Item {
	return []relax.Item{code(inst("jmp a")), raw(1, 2), mark("a"), alignTo(16, 144), space(7, 204)}
}

func TestP1601MayBe(t *testing.T) {
	checkCheck(t, nil, api.OK)
	checkCheck(t, good(), api.OK)
	for _, i := range good() {
		checkCheck(t, []relax.Item{i}, api.OK)
	}
	for _, l := range [][]relax.Item{{raw()}, {space(0, 0)}, {space(0, 9)}, {space(api.MaxBytes, 255)}, {alignTo(1, 0)}, {alignTo(4096, 255)}, {mark(strings.Repeat("x", 300))}, {mark(" \x00(")}, {mark("a"), mark("b"), mark("A"), mark("a ")}} {
		checkCheck(t, l, api.OK)
	}
	// What can't be laid out, or has no bytes, may be all the same.
	for _, text := range []string{"jmp short a", ".zero 1048576; .zero 1048576", "a: .zero 500; jmp short a", "a: leaq a+2147483647(%rip), %rax; leaq a-2147483648(%rip), %rax"} {
		checkCheck(t, items(text), api.OK)
	}
}

func TestP1601Kinds(t *testing.T) {
	for _, kind := range []int{math.MinInt, -5, -1, 0, 6, 7, 9, 257, 1 << 32, 1<<32 + 1, math.MaxInt} {
		checkWrong(t, []relax.Item{{Kind: kind}}, api.ErrArg)
		for _, i := range good() {
			i.Kind = kind
			checkWrong(t, []relax.Item{i}, api.ErrArg)
		}
	}
	// Each kind with what another one's has.
	for _, i := range good() {
		for kind := relax.Code; kind <= relax.Space; kind++ {
			j := i
			if j.Kind = kind; kind != i.Kind && !(kind == relax.Space && i.Kind == relax.Align) {
				checkWrong(t, []relax.Item{j}, api.ErrArg)
			}
		}
	}
}

// TestP1601ElseNothing: what a kind does not name must be zero.
func TestP1601ElseNothing(t *testing.T) {
	changes := []struct {
		kinds  []int // those that have this field
		change func(i *relax.Item)
	}{
		{[]int{relax.Code}, func(i *relax.Item) { i.Inst = inst("nop") }},
		{[]int{relax.Code}, func(i *relax.Item) { i.Inst.Cond = 1 }},
		{[]int{relax.Code}, func(i *relax.Item) { i.Inst.Short = true }},
		{[]int{relax.Code}, func(i *relax.Item) { i.Inst.From.Name = "x" }},
		{[]int{relax.Raw}, func(i *relax.Item) { i.Data = []byte{0} }},
		{[]int{relax.Mark}, func(i *relax.Item) { i.Name = "x" }},
		{[]int{relax.Align, relax.Space}, func(i *relax.Item) { i.N = 1 }},
		{[]int{relax.Align, relax.Space}, func(i *relax.Item) { i.N = 4096 }},
		{nil, func(i *relax.Item) { i.N = -1 }},
		{[]int{relax.Align, relax.Space}, func(i *relax.Item) { i.Fill = 1 }},
	}
	for _, c := range changes {
		for _, i := range good() {
			if c.change(&i); !slices.Contains(c.kinds, i.Kind) {
				checkWrong(t, []relax.Item{i}, api.ErrArg)
			}
		}
	}
	// Nil and empty bytes are both none.
	for _, i := range good() {
		if i.Kind != relax.Raw {
			i.Data = []byte{}
			checkCheck(t, []relax.Item{i}, api.OK)
		}
	}
}

func TestP1601Marks(t *testing.T) {
	checkWrong(t, []relax.Item{mark("")}, api.ErrArg)
	checkWrong(t, []relax.Item{mark(""), mark("")}, api.ErrArg)
	checkWrong(t, items("a: a:"), api.ErrLabel)
	checkWrong(t, items("a: nop; b: jmp a; a:"), api.ErrLabel)
	checkWrong(t, items("a: b: c: .zero 9; b:"), api.ErrLabel)
}

func TestP1601Aligns(t *testing.T) {
	power := map[int]bool{}
	for n := 1; n <= 4096; n *= 2 {
		power[n] = true
	}
	for n := -10; n <= 9000; n++ {
		want := api.ErrArg
		if power[n] {
			want = api.OK
		}
		checkCheck(t, []relax.Item{alignTo(n, 0)}, want)
	}
	for _, n := range []int{math.MinInt, math.MinInt + 1, -4096, -1, 0, 3, 4095, 4097, 8192, 1 << 20, 1 << 32, 1 << 62, math.MaxInt} {
		checkWrong(t, []relax.Item{alignTo(n, 5)}, api.ErrArg)
	}
}

func TestP1601Spaces(t *testing.T) {
	for _, n := range []int{math.MinInt, -api.MaxBytes, -1, api.MaxBytes + 1, 1 << 32, math.MaxInt} {
		checkWrong(t, []relax.Item{space(n, 5)}, api.ErrArg)
	}
}

func TestP1601Insts(t *testing.T) {
	wrong := []api.Inst{{}, {Op: api.LastOp + 1}, {Op: -1}, {Op: api.Jmp}, {Op: api.Mov, Size: 2}, {Op: api.Nop, Size: 8}, {Op: api.Nop, Short: true}}
	i := inst("jmp a")
	i.To.N = 1
	wrong = append(wrong, i)
	i = inst("call a")
	i.Short = true
	wrong = append(wrong, i)
	for _, i := range wrong {
		checkWrong(t, []relax.Item{code(i)}, api.ErrForm)
		checkWrong(t, []relax.Item{mark("a"), code(inst("nop")), code(i), raw(1)}, api.ErrForm)
	}
}

func TestP1601Many(t *testing.T) {
	l := slices.Repeat([]relax.Item{space(0, 0)}, mostItems)
	checkCheck(t, l, api.OK)
	checkWrong(t, append(l, space(0, 0)), api.ErrSize)
	checkWrong(t, append(l, raw()), api.ErrSize)
}

// TestP1601Order: of several errors the first one that is named, wherever it stands.
func TestP1601Order(t *testing.T) {
	arg, form, label := space(-1, 0), code(api.Inst{}), mark("a")
	many := slices.Repeat([]relax.Item{raw()}, mostItems)
	for _, c := range []struct {
		l []relax.Item
		e api.Errno
	}{
		{[]relax.Item{label, label, form, arg}, api.ErrArg},
		{[]relax.Item{arg, form, label, label}, api.ErrArg},
		{[]relax.Item{form, arg}, api.ErrArg},
		{[]relax.Item{label, label, form}, api.ErrForm},
		{[]relax.Item{form, label, label}, api.ErrForm},
		{append([]relax.Item{arg, form, label, label}, many...), api.ErrSize},
		{append([]relax.Item{label, label, form}, many[:mostItems-3]...), api.ErrForm},
		{append(many[:mostItems-1:mostItems-1], arg), api.ErrArg},
		{append(many[:mostItems-1:mostItems-1], form), api.ErrForm},
		{append(many[:mostItems-2:mostItems-2], label, label), api.ErrLabel},
	} {
		checkWrong(t, c.l, c.e)
	}
	// An item may be wrong in two ways: its Inst counts only if nothing else is wrong.
	both := code(api.Inst{})
	both.N = 1
	checkWrong(t, []relax.Item{both}, api.ErrArg)
	// And all of these come ahead of too many bytes, and of what is wrong with short jumps.
	big := space(api.MaxBytes, 0)
	checkWrong(t, []relax.Item{big, big, arg}, api.ErrArg)
	checkWrong(t, []relax.Item{big, big, form}, api.ErrForm)
	checkWrong(t, []relax.Item{big, big, label, label}, api.ErrLabel)
	checkUnlaid(t, []relax.Item{items("jmp short x")[0], big, big}, api.ErrSize)
}
