package layout_test

import (
	"testing"

	"gangway/api"
	sources "gangway/object"
)

// TestP1903Example: that of the chapter.
func TestP1903Example(t *testing.T) {
	l := files(object(text(16, 3), data(8, 8)), object(text(16, 5)))
	checkOutputs(t, l, output(".text", api.ProgBits, 6, 16, 4096, 21), output(".data", api.ProgBits, 3, 8, 8192, 8))
	checkAt(t, l, []int{4096, 8192}, []int{4112})
	checkEnd(t, l, 8200)
	checkSegments(t, l, load(5, 4096, 21, 21), load(6, 8192, 8, 8))
	checkThread(t, l, 0, 0, 0, 0)
	l[1].Sections = append(l[1].Sections, tbss(4, 4), bss(8, 10000))
	l[0].Sections = append(l[0].Sections, tdata(8, 8))
	checkThread(t, l, 8192, 12, 8, 8192+16)
	checkSegments(t, l, load(5, 4096, 21, 21), load(6, 8192, 24, 24+10000), tls(8192, 8, 12, 8))
}

// TestP1903Nothing: without what is laid out.
func TestP1903Nothing(t *testing.T) {
	for _, l := range [][]api.File{nil, {}, {{}}, one(note(9)), one(section("s", api.NoBits, api.Write|api.Exec|api.TlsFlag, 4096, 1<<30))} {
		checkOutputs(t, l)
		checkSegments(t, l)
		checkThread(t, l, 0, 0, 0, 0)
		checkEnd(t, l, 4096)
	}
	checkAt(t, nil)
	checkAt(t, files(object(), object(note(1), named(note(0), "a")), object()), nil, []int{-1, -1}, nil)
}

// groupsInOrder: one section of each group, and more of the first ones, in the order of the chapter.
func groupsInOrder() []api.Section {
	return []api.Section{
		section("r", api.ProgBits, 2, 1, 1), section("rn", api.NoBits, 2, 1, 1), section("ri", api.InitArray, 2, 1, 1), section("rf", api.FiniArray, 2, 1, 1),
		section("x", api.ProgBits, 6, 1, 1), section("xn", api.NoBits, 6, 1, 1), section("xi", api.InitArray, 6, 1, 1), section("xf", api.FiniArray, 6, 1, 1),
		section("t", api.ProgBits, 1027, 1, 1), section("tr", api.ProgBits, 1026, 1, 1), section("ti", api.InitArray, 1027, 1, 1), section("tf", api.FiniArray, 1026, 1, 1),
		section("tn", api.NoBits, 1027, 1, 1), section("tnr", api.NoBits, 1026, 1, 1),
		section("i", api.InitArray, 3, 1, 1), section("f", api.FiniArray, 3, 1, 1), section("d", api.ProgBits, 3, 1, 1), section("b", api.NoBits, 3, 1, 1),
	}
}

// TestP1903Groups: in the order of the groups, whatever the order of the sections.
func TestP1903Groups(t *testing.T) {
	group := []int{1, 1, 1, 1, 2, 2, 2, 2, 3, 3, 3, 3, 4, 4, 5, 6, 7, 8}
	kinds := groupsInOrder()
	for i, a := range kinds {
		for k, b := range kinds {
			if i == k {
				continue
			}
			first, second := a, b
			if group[k] < group[i] {
				first, second = b, a
			}
			behind := 4097
			if group[i] != group[k] && min(group[i], group[k]) < 3 {
				behind = 8192
			}
			want := []int{4096, behind}
			if first.Name == b.Name {
				want = []int{behind, 4096}
			}
			checkAt(t, one(a, b), want)
			checkAt(t, files(object(a), object(note(3), b)), want[:1], []int{-1, want[1]})
			checkOutputs(t, one(a, b), output(first.Name, first.Type, first.Flags, 1, 4096, 1), output(second.Name, second.Type, second.Flags, 1, behind, 1))
		}
	}
	var want []int
	for k, addr := 0, 4096; k < len(kinds); k++ {
		if k == 4 || k == 8 {
			addr = nextMultiple(addr, 4096)
		}
		want = append(want, addr)
		addr++
	}
	checkAt(t, one(kinds...), want)
}

// TestP1903FirstStand: in a group names stand as they first do, object by object, section by section.
func TestP1903FirstStand(t *testing.T) {
	a, b, c := named(data(1, 1), "a"), named(data(1, 1), "b"), named(data(1, 1), "c")
	checkAt(t, files(object(c, a), object(b, a)), []int{4096, 4097}, []int{4099, 4098})
	checkAt(t, files(object(), object(b), object(a, b, c), object(c)), nil, []int{4096}, []int{4098, 4097, 4099}, []int{4100})
	checkOutputs(t, files(object(note(4), b), object(c, a), object(a, b)),
		output("b", api.ProgBits, 3, 1, 4096, 2), output("c", api.ProgBits, 3, 1, 4098, 1), output("a", api.ProgBits, 3, 1, 4099, 2))
	// Sixty-four sections an object, sixteen objects.
	var l []api.File
	for o := range 16 {
		f := api.File{}
		for k := range 64 {
			f.Sections = append(f.Sections, named(data(1, 1), string([]byte{byte('p' - o), byte(200 - k)})))
		}
		l = append(l, f)
	}
	m := placed(t, l)
	if len(m.Outputs) != 1024 {
		t.Fatal(len(m.Outputs))
	}
	for k, o := range m.Outputs {
		if o.Name != l[k/64].Sections[k%64].Name || o.Addr != 4096+k || m.At[k/64][k%64] != 4096+k {
			t.Fatal(k, o)
		}
	}
}

// TestP1903Aligns: an Output's is the greatest one of its sections; each section keeps its own.
func TestP1903Aligns(t *testing.T) {
	l := files(object(data(2, 3)), object(data(64, 1)), object(data(1, 1)), object(data(8, 5)))
	checkOutputs(t, l, output(".data", api.ProgBits, 3, 64, 4096, 64+8+5))
	checkAt(t, l, []int{4096}, []int{4160}, []int{4161}, []int{4168})
	// The Output begins at a multiple of the greatest one, though its first section would not need it.
	l = files(object(named(data(1, 1), "a"), data(2, 3)), object(data(64, 1)))
	checkOutputs(t, l, output("a", api.ProgBits, 3, 1, 4096, 1), output(".data", api.ProgBits, 3, 64, 4160, 65))
	checkAt(t, l, []int{4096, 4160}, []int{4224})
	for align := 1; align <= 4096; align *= 2 {
		for n := range 3 {
			behind := nextMultiple(4096+n, align)
			checkOutputs(t, one(named(data(1, n), "a"), data(align, 2)), output("a", api.ProgBits, 3, 1, 4096, n), output(".data", api.ProgBits, 3, align, behind, 2))
			checkAt(t, files(object(data(1, n)), object(data(align, 2))), []int{4096}, []int{behind})
		}
	}
	// Empty ones have their places, too.
	checkAt(t, files(object(data(1, 3)), object(data(16, 0)), object(data(1, 0))), []int{4096}, []int{4112}, []int{4112})
	checkOutputs(t, files(object(data(1, 3)), object(data(16, 0))), output(".data", api.ProgBits, 3, 16, 4096, 16))
	checkEnd(t, files(object(data(1, 3)), object(data(16, 0))), 4112)
	checkOutputs(t, files(object(bss(1, 3)), object(bss(16, 5))), output(".bss", api.NoBits, 3, 16, 4096, 21))
}

// TestP1903Pages: the first one of 1, of 2, and of 3 to 8 begins a page, if it is not at one's beginning.
func TestP1903Pages(t *testing.T) {
	for _, n := range []int{0, 1, 4095, 4096, 4097, 8192} {
		next := nextMultiple(4096+n, 4096)
		for _, behind := range []api.Section{data(1, 1), bss(1, 1), tdata(1, 1), tbss(1, 1), text(1, 1), section("i", api.InitArray, 3, 1, 1)} {
			checkAt(t, one(rodata(1, n), behind), []int{4096, next})
			checkAt(t, one(behind, rodata(1, n)), []int{next, 4096})
		}
		checkAt(t, one(text(1, n), data(1, 1), bss(8, 1)), []int{4096, next, next + 8})
		checkAt(t, one(rodata(1, 1), text(1, n), tbss(1, 1), bss(1, 1)), []int{4096, 8192, 4096 + next, 4096 + next + 1})
		checkAt(t, one(tdata(1, n), data(1, 1), bss(1, 1)), []int{4096, 4096 + n, 4096 + n + 1})
	}
	// Empty ones begin pages as well, and leave the next ones where they are.
	checkAt(t, one(rodata(8, 0), text(8, 0), data(8, 0)), []int{4096, 4096, 4096})
	checkEnd(t, one(rodata(8, 0), text(8, 0), data(8, 0)), 4096)
	checkAt(t, one(rodata(8, 1), text(8, 0), data(8, 0)), []int{4096, 8192, 8192})
	checkEnd(t, one(rodata(8, 1), text(8, 0)), 8192)
	checkEnd(t, one(rodata(8, 1), note(5)), 4097)
}

// TestP1903Sources: objects that were assembled.
func TestP1903Sources(t *testing.T) {
	var l []api.File
	for _, text := range []string{
		".globl main; main: call f; ret; .section .tdata; .quad 1; .data; .quad main",
		".globl f; f: movq %fs:0, %rax; ret; .section .tbss; .zero 4; .bss; .zero 100; .section .rodata; .quad 7",
	} {
		f, line, e := sources.Assemble(text)
		if e != api.OK {
			t.Fatal(text, line, e)
		}
		l = append(l, f)
	}
	m := placed(t, l)
	var names []string
	for _, o := range m.Outputs {
		names = append(names, o.Name)
	}
	if got := short(names); got != "[.rodata .text .tdata .tbss .data .bss]" || len(m.Segments) != 4 || m.TlsSize != 12 {
		t.Error(got, short(m))
	}
	checkModel(t, l)
}
