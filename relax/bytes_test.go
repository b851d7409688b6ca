package relax_test

import (
	"bytes"
	"slices"
	"testing"

	"gangway/api"
	"gangway/relax"
)

func reloc(at, kind int, name string, add int) api.Reloc {
	return api.Reloc{At: at, Type: kind, Symbol: name, Add: add}
}

func TestP1603Examples(t *testing.T) {
	checkBytes(t, "jmp a; nop; a:", "eb 01 90")
	checkBytes(t, "jmp a; .zero 128; a:", "e9 80 00 00 00 "+zeros(128))
	checkBytes(t, "jmp a; jmp b; .zero 124; a: .zero 4; b:", "e9 81 00 00 00 e9 80 00 00 00 "+zeros(128))
	checkBytes(t, "call f", "e8 00 00 00 00", reloc(1, api.RPc32, "f", -4))
	checkBytes(t, "call a; a:", "e8 00 00 00 00")
	checkBytes(t, "a: call a", "e8 fb ff ff ff")
	checkBytes(t, "call a@plt; a:", "e8 00 00 00 00", reloc(1, api.RPlt32, "a", -4))
	checkUnwritten(t, items("a: a:"), api.ErrLabel)
}

// TestP1603Nothing: lists without bytes.
func TestP1603Nothing(t *testing.T) {
	checkAll(t, nil, nil, nil, nil, api.OK)
	checkAll(t, []relax.Item{raw(), space(0, 9), alignTo(4096, 9)}, nil, nil, nil, api.OK)
	checkAll(t, []relax.Item{mark("a")}, nil, nil, []relax.Label{{Name: "a"}}, api.OK)
}

// TestP1603EachKind: one behind the other; labels in the order of the Marks, not of their names.
func TestP1603EachKind(t *testing.T) {
	l := []relax.Item{mark("z"), code(inst("nop")), alignTo(4, 204), mark("c"), raw(1, 2, 255), mark("a"), mark("b"), space(2, 7), alignTo(8, 0), alignTo(8, 5), space(1, 0), code(inst("call f")), mark(" e\x00nd")}
	want := []byte{144, 204, 204, 204, 1, 2, 255, 7, 7, 0, 0, 0, 0, 0, 0, 0, 0, 232, 0, 0, 0, 0}
	labels := []relax.Label{{Name: "z"}, {Name: "c", At: 4}, {Name: "a", At: 7}, {Name: "b", At: 7}, {Name: " e\x00nd", At: 22}}
	checkAll(t, l, want, []api.Reloc{reloc(18, api.RPc32, "f", -4)}, labels, api.OK)
}

// TestP1603Aligned: a label ahead of an alignment is where the bytes Fill begin.
func TestP1603Aligned(t *testing.T) {
	l := items("nop; a: .balign 4, 204; b: jmp a; jmp b; .balign 1, 9; call b; .balign 16, 1")
	want := []byte{144, 204, 204, 204, 235, 251, 235, 252, 232, 247, 255, 255, 255, 1, 1, 1}
	checkAll(t, l, want, nil, []relax.Label{{Name: "a", At: 1}, {Name: "b", At: 4}}, api.OK)
	l = []relax.Item{code(inst("nop")), alignTo(4096, 77), code(inst("ret"))}
	checkAll(t, l, slices.Concat([]byte{144}, bytes.Repeat([]byte{77}, 4095), []byte{195}), nil, nil, api.OK)
}

// TestP1603Near: operands that name labels leave nothing to the linker.
func TestP1603Near(t *testing.T) {
	checkBytes(t, "leaq a(%rip), %rax; nop; a:", "48 8d 05 01 00 00 00 90")
	checkBytes(t, "a: leaq a(%rip), %rax", "48 8d 05 f9 ff ff ff")
	checkBytes(t, "leaq a+8(%rip), %rax; a:", "48 8d 05 08 00 00 00")
	checkBytes(t, "leaq a-8(%rip), %rax; a:", "48 8d 05 f8 ff ff ff")
	checkBytes(t, "movq a+2(%rip), %r9; a:", "4c 8b 0d 02 00 00 00")
	checkBytes(t, "movb %sil, a(%rip); a:", "40 88 35 00 00 00 00")
	checkBytes(t, "pushq a(%rip); nop; a:", "ff 35 01 00 00 00 90")
	checkBytes(t, "popq a(%rip); nop; a:", "8f 05 01 00 00 00 90")
	checkBytes(t, "call *a(%rip); nop; a:", "ff 15 01 00 00 00 90")
	checkBytes(t, "jmp *a(%rip); nop; a:", "ff 25 01 00 00 00 90")
	// A number behind the displacement: the place behind the instruction counts, not that behind the hole.
	checkBytes(t, "movl $5, a(%rip); .zero 3; a:", "c7 05 03 00 00 00 05 00 00 00 00 00 00")
	checkBytes(t, "nop; a: addq $1, a-2(%rip)", "90 48 83 05 f6 ff ff ff 01")
	// Far away: over the first MaxBytes.
	l := append(items("leaq a+1(%rip), %rax; jmp a; jo a; call a"), space(api.MaxBytes-23, 0), mark("a"))
	b, relocs, _, e := relax.Bytes(l)
	want := []byte{72, 141, 5, 250, 255, 15, 0, 233, 244, 255, 15, 0, 15, 128, 238, 255, 15, 0, 232, 233, 255, 15, 0}
	if e != api.OK || len(b) != api.MaxBytes || len(relocs) != 0 || !bytes.Equal(b[:23], want) {
		t.Error(len(b), b[:23], relocs, e)
	}
}

// TestP1603Jumps: free ones, short and long, forwards and backwards, of both ops.
func TestP1603Jumps(t *testing.T) {
	checkBytes(t, "a: jmp a; jne a; jmp b; jg b; b:", "eb fe 75 fc eb 02 7f 00")
	checkBytes(t, "jmp a; .zero 127; a:", "eb 7f "+zeros(127))
	checkBytes(t, "a: .zero 126; jmp a", zeros(126)+" eb 80")
	checkBytes(t, "a: .zero 127; jmp a", zeros(127)+" e9 7c ff ff ff")
	checkBytes(t, "jo a; .zero 128; a:", "0f 80 80 00 00 00 "+zeros(128))
	checkBytes(t, "a: .zero 127; jg a", zeros(127)+" 0f 8f 7b ff ff ff")
	for cond, name := range []string{"o", "no", "b", "ae", "e", "ne", "be", "a", "s", "ns", "p", "np", "l", "ge", "le", "g"} {
		l := items("j" + name + " x; j" + name + " short x; .zero 200; j" + name + " x; x:")
		l = append(l[:1], l[2:]...)
		b, _, _, e := relax.Bytes(l)
		if e != api.OK || len(b) != 208 || !bytes.Equal(b[:6], []byte{15, byte(128 + cond), 202, 0, 0, 0}) || !bytes.Equal(b[206:], []byte{byte(112 + cond), 0}) {
			t.Error(name, b, e)
		}
	}
}

// TestP1603Left: all other names are left to the linker, of labels too, at their places in the section.
func TestP1603Left(t *testing.T) {
	for _, c := range []struct {
		text, want string
		reloc      api.Reloc
	}{
		{"jmp x", "e9 00 00 00 00", reloc(1, api.RPc32, "x", -4)},
		{"je x", "0f 84 00 00 00 00", reloc(2, api.RPc32, "x", -4)},
		{"a: jmp a@plt", "e9 00 00 00 00", reloc(1, api.RPlt32, "a", -4)},
		{"a: jne a@plt", "0f 85 00 00 00 00", reloc(2, api.RPlt32, "a", -4)},
		{"call x@plt", "e8 00 00 00 00", reloc(1, api.RPlt32, "x", -4)},
		{"leaq x-3(%rip), %rax", "48 8d 05 00 00 00 00", reloc(3, api.RPc32, "x", -7)},
		{"movl $5, x+1(%rip)", "c7 05 00 00 00 00 05 00 00 00", reloc(2, api.RPc32, "x", -7)},
		{"call *x(%rip)", "ff 15 00 00 00 00", reloc(2, api.RPc32, "x", -4)},
		{"a: movq a@gotpcrel(%rip), %rax", "48 8b 05 00 00 00 00", reloc(3, api.RGotPcrel, "a", -4)},
		{"a: call *a@gotpcrel(%rip)", "ff 15 00 00 00 00", reloc(2, api.RGotPcrel, "a", -4)},
		{"a: movq a@gottpoff(%rip), %rax", "48 8b 05 00 00 00 00", reloc(3, api.RGotTpoff, "a", -4)},
		{"a: movq %fs:a@tpoff, %rax", "64 48 8b 04 25 00 00 00 00", reloc(5, api.RTpoff32, "a", 0)},
		{"a: leaq a@tpoff+4(%rax), %rax", "48 8d 80 00 00 00 00", reloc(3, api.RTpoff32, "a", 4)},
		{"a: leaq a@dtpoff-4(%rax,%rbx,2), %rcx", "48 8d 8c 58 00 00 00 00", reloc(4, api.RDtpoff32, "a", -4)},
	} {
		checkBytes(t, c.text, c.want, c.reloc)
		moved := c.reloc
		moved.At += 2
		checkBytes(t, "nop; nop;"+c.text, "90 90 "+c.want, moved)
	}
	checkBytes(t, "call f; jmp b; call g; b: call f; leaq b+4(%rip), %rax; leaq f+4(%rip), %rax",
		"e8 00 00 00 00 eb 05 e8 00 00 00 00 e8 00 00 00 00 48 8d 05 f8 ff ff ff 48 8d 05 00 00 00 00",
		reloc(1, api.RPc32, "f", -4), reloc(8, api.RPc32, "g", -4), reloc(13, api.RPc32, "f", -4), reloc(27, api.RPc32, "f", 0))
}

// TestP1603NoNames: what has no name is as chapter 4 has it.
func TestP1603NoNames(t *testing.T) {
	checkBytes(t, "jmp .+5", "e9 05 00 00 00")
	checkBytes(t, "jmp .+2147483647; jl .-2147483648", "e9 ff ff ff 7f 0f 8c 00 00 00 80")
	checkBytes(t, "jmp short .-128; jne short .+127", "eb 80 75 7f")
	checkBytes(t, "leaq 9(%rip), %rax; movq %fs:0, %rax; jmp *%rax", "48 8d 05 09 00 00 00 64 48 8b 04 25 00 00 00 00 ff e0")
}

// TestP1603Short: jumps that are Short in the list are so in the bytes, or there are none.
func TestP1603Short(t *testing.T) {
	for _, c := range []struct{ name, code string }{{"jmp", "eb"}, {"jo", "70"}, {"jg", "7f"}} {
		jump := c.name + " short a;"
		checkBytes(t, "a:"+jump, c.code+" fe")
		checkBytes(t, jump+".zero 127; a:", c.code+" 7f "+zeros(127))
		checkUnwritten(t, items(jump+".zero 128; a:"), api.ErrOverflow)
		checkBytes(t, "a: .zero 126;"+jump, zeros(126)+" "+c.code+" 80")
		checkUnwritten(t, items("a: .zero 127;"+jump), api.ErrOverflow)
		checkUnwritten(t, items(jump), api.ErrLabel)
		checkUnwritten(t, items(jump+"b: A: aa:"), api.ErrLabel)
		checkUnwritten(t, items(c.name+" short a@plt"), api.ErrLabel)
		checkUnwritten(t, items(c.name+" short a@plt; a:"), api.ErrLabel)
	}
	// Where it goes is seen when all free jumps are as long as they become.
	checkBytes(t, "jmp short a; jmp b; .zero 125; a: b:", "eb 7f eb 7d "+zeros(125))
	checkUnwritten(t, items("jmp short a; jmp b; .zero 125; a: .zero 9; b:"), api.ErrOverflow)
	checkUnwritten(t, items("b: .zero 4; a: .zero 123; jmp b; jmp short a"), api.ErrOverflow)
	// An alignment may take away what they grow.
	checkBytes(t, "jmp short a; jmp b; .zero 120; .balign 8; a: .zero 9; b:", "eb 7e e9 82 00 00 00 "+zeros(130))
}

// TestP1603Order: of jumps that are Short the first one that may not be counts.
func TestP1603Order(t *testing.T) {
	checkUnwritten(t, items("jmp short a; jmp short x; .zero 128; a:"), api.ErrOverflow)
	checkUnwritten(t, items("jmp short x; jmp short a; .zero 128; a:"), api.ErrLabel)
	checkUnwritten(t, items("jmp short a; jmp short a@plt; .zero 128; a:"), api.ErrOverflow)
	checkUnwritten(t, items("jmp short a@plt; jmp short a; .zero 128; a:"), api.ErrLabel)
	checkUnwritten(t, items("jmp short b; nop; b: jmp short a; .zero 128; a: jmp short x"), api.ErrOverflow)
	// Both come ahead of all bytes, and so of a displacement that does not fit.
	for _, text := range []string{"leaq a+2147483647(%rip), %rax; nop; a: jmp short x", "jmp short x; leaq a+2147483647(%rip), %rax; nop; a:"} {
		checkUnwritten(t, items(text), api.ErrLabel)
	}
}

// TestP1603Displacements: the least and the greatest, and one more.
func TestP1603Displacements(t *testing.T) {
	checkBytes(t, "leaq a+2147483647(%rip), %rax; a:", "48 8d 05 ff ff ff 7f")
	checkUnwritten(t, items("leaq a+2147483647(%rip), %rax; nop; a:"), api.ErrOverflow)
	checkBytes(t, "leaq a+2147483646(%rip), %rax; nop; a:", "48 8d 05 ff ff ff 7f 90")
	checkBytes(t, "a: leaq a+2147483647(%rip), %rax", "48 8d 05 f8 ff ff 7f")
	checkBytes(t, "a: leaq a-2147483641(%rip), %rax", "48 8d 05 00 00 00 80")
	checkUnwritten(t, items("a: leaq a-2147483642(%rip), %rax"), api.ErrOverflow)
	checkUnwritten(t, items("a: leaq a-2147483648(%rip), %rax"), api.ErrOverflow)
	checkBytes(t, "leaq a-2147483648(%rip), %rax; a:", "48 8d 05 00 00 00 80")
	checkUnwritten(t, items("a: movl $5, a-2147483639(%rip)"), api.ErrOverflow)
	checkBytes(t, "a: movl $5, a-2147483638(%rip)", "c7 05 00 00 00 80 05 00 00 00")
	checkUnwritten(t, items("nop; call f; a: .zero 9; pushq a-2147483647(%rip)"), api.ErrOverflow)
	// A jump that becomes long may take it too far.
	checkBytes(t, "leaq a+2147483518(%rip), %rax; jmp b; .zero 127; a: b:", "48 8d 05 ff ff ff 7f eb 7f "+zeros(127))
	checkUnwritten(t, items("leaq a+2147483518(%rip), %rax; jmp b; .zero 127; a: nop; b:"), api.ErrOverflow)
}

// TestP1603AgainstModel: with jumps that are Short already, and displacements that are far, among all else.
func TestP1603AgainstModel(t *testing.T) {
	random := seeded(3)
	wrong := map[api.Errno]int{}
	for range 3000 {
		l := anyTight(random, 20, true)
		if random.IntN(2) == 0 {
			name := pick(random, anyNames())
			text := pick(random, []string{"jmp short " + name, "jg short " + name, "jmp short " + name + "@plt", "leaq " + name + "+2147483600(%rip), %rax", "cmpb $9, " + name + "-2147483500(%rip)"})
			l = slices.Insert(l, random.IntN(len(l)+1), items(text)...)
		}
		checkModel(t, l)
		_, _, _, e := modelBytes(l)
		wrong[e]++
	}
	if wrong[api.OK] < 1000 || wrong[api.ErrLabel] < 100 || wrong[api.ErrOverflow] < 100 {
		t.Error("the lists are too plain:", wrong)
	}
}
