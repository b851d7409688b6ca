package object_test

import (
	"bytes"
	"slices"
	"strconv"
	"strings"
	"testing"

	"gangway/api"
	"gangway/cfa"
	"gangway/ehframe"
	"gangway/lines"
)

func TestP1703FrameExample(t *testing.T) {
	s := sectionOf(t, "f: .cfi_startproc; pushq %rbp; .cfi_def_cfa_offset 16; ret; .cfi_endproc", ".eh_frame")
	want := slices.Concat([]byte{20, 0, 0, 0, 0, 0, 0, 0, 1, 'z', 'R', 0, 1, 120, 16, 1, 27, 12, 7, 8, 144, 1, 0, 0}, []byte{20, 0, 0, 0, 28, 0, 0, 0, 0, 0, 0, 0, 2, 0, 0, 0, 0, 65, 14, 16, 0, 0, 0, 0})
	if !sameSection(s, api.Section{Name: ".eh_frame", Type: api.ProgBits, Flags: api.Alloc, Align: 8, Data: want, Size: 48, Relocs: []api.Reloc{reloc(32, api.RPc32, ".text", 0)}}) {
		t.Error(s)
	}
}

// TestP1703Frames: where each procedure begins, how long it is, and what is told at which places.
func TestP1703Frames(t *testing.T) {
	text := ".data; .byte 1; .text; nop; .cfi_startproc; pushq %rbp; .cfi_def_cfa_offset 16; .cfi_offset %rbp, -16; .data; .zero 5; .text; movq %rsp, %rbp; .cfi_def_cfa_register %rbp; leave; .cfi_def_cfa %rsp, 8; ret; .cfi_endproc; nop; .section .x, \"ax\"; .zero 7; g: .cfi_startproc; h: ret; .balign 8; .cfi_endproc; .text; .cfi_startproc; .cfi_endproc; ret"
	l, relocs := framesOf(t, text)
	if len(l) != 3 {
		t.Fatal(l)
	}
	if at := []int{l[0].Size, l[1].Size, l[2].Size}; !slices.Equal(at, []int{6, 1, 0}) {
		t.Error(at)
	}
	b := 24
	for k, want := range []api.Reloc{reloc(0, api.RPc32, ".text", 1), reloc(0, api.RPc32, ".x", 7), reloc(0, api.RPc32, ".text", 8)} {
		want.At = b + 8
		if relocs[k] != want {
			t.Error(k, relocs[k], want)
		}
		s := sectionOf(t, text, ".eh_frame")
		if !bytes.Equal(s.Data[want.At:want.At+4], zeros(4)) {
			t.Error(k, s.Data)
		}
		b += 4 + int(s.Data[b])
	}
	want := []cfa.Op{{Kind: cfa.Advance, N: 1}, {Kind: cfa.DefOffset, N: 16}, {Kind: cfa.Offset, R: 6, N: -16}, {Kind: cfa.Advance, N: 3}, {Kind: cfa.DefRegister, R: 6}, {Kind: cfa.Advance, N: 1}, {Kind: cfa.DefCfa, R: 7, N: 8}}
	if !slices.Equal(l[0].Ops, want) || len(l[1].Ops) != 0 || len(l[2].Ops) != 0 {
		t.Error(l)
	}
}

// TestP1703FrameOps: each directive, as cfa.Compile has it at its place.
func TestP1703FrameOps(t *testing.T) {
	text := ".zero 3; .cfi_startproc; .cfi_remember_state; nop; .cfi_adjust_cfa_offset 8; .cfi_rel_offset 3, 0; .zero 298; a: .cfi_undefined 9; .cfi_same_value %r10; .balign 16; .cfi_restore 3; nop; .cfi_restore_state; .cfi_endproc"
	events := []cfa.Event{{At: 0, Name: "remember_state"}, {At: 1, Name: "adjust_cfa_offset", Args: []int{8}}, {At: 1, Name: "rel_offset", Args: []int{3, 0}}, {At: 299, Name: "undefined", Args: []int{9}}, {At: 299, Name: "same_value", Args: []int{10}}, {At: 301, Name: "restore", Args: []int{3}}, {At: 302, Name: "restore_state"}}
	ops, e := cfa.Compile(events, 302)
	l, relocs := framesOf(t, text)
	if e != api.OK || len(l) != 1 || l[0].Size != 302 || !slices.Equal(l[0].Ops, ops) || relocs[0].Add != 3 {
		t.Error(l, relocs, ops, e)
	}
}

// TestP1703FrameWrite: all of the section is what ehframe.Write says, but for the Begins.
func TestP1703FrameWrite(t *testing.T) {
	var text strings.Builder
	var f []ehframe.Fde
	var relocs []api.Reloc
	at := 0
	for k := range 40 {
		text.WriteString(".cfi_startproc;" + strings.Repeat("nop;", k) + ".cfi_def_cfa_offset 16; .cfi_offset 3, -24; ret; .cfi_endproc;")
		ops, _ := cfa.Compile([]cfa.Event{{At: k, Name: "def_cfa_offset", Args: []int{16}}, {At: k, Name: "offset", Args: []int{3, -24}}}, k+1)
		f = append(f, ehframe.Fde{Begin: at, Size: k + 1, Ops: ops})
		at += k + 1
	}
	b, places, e := ehframe.Write([]ehframe.Cie{{Enc: ehframe.Pcrel + ehframe.S4, Initial: cfa.Usual()}}, f, 1<<20, false)
	for k, place := range places {
		copy(b[place+8:], zeros(4))
		relocs = append(relocs, reloc(place+8, api.RPc32, ".text", f[k].Begin))
	}
	s := sectionOf(t, text.String(), ".eh_frame")
	if e != api.OK || !bytes.Equal(s.Data, b) || !slices.Equal(s.Relocs, relocs) || s.Size != len(b) {
		t.Error(short(s), short(b), relocs, e)
	}
}

func TestP1703Lines(t *testing.T) {
	text := ".file 1 \"a.s\"; nop; .loc 1 3; ret; .loc 1 4 5; .file 2 \"b.s\"; .data; .byte 1; .text; .balign 4; .loc 2 9; jmp a; .zero 128; a: .loc 1 3"
	p, relocs := linesOf(t, text)
	want := []lines.Row{{At: 1, File: 1, Line: 3}, {At: 2, File: 1, Line: 4, Column: 5}, {At: 4, File: 2, Line: 9}, {At: 137, File: 1, Line: 3}}
	if !slices.Equal(p.Files, []string{"a.s", "b.s"}) || len(p.Seqs) != 1 || p.Seqs[0].Start != 0 || p.Seqs[0].Size != 137 || !slices.Equal(p.Seqs[0].Rows, want) {
		t.Error(p)
	}
	s := sectionOf(t, text, ".debug_line")
	b, at, e := lines.Write(lines.Program{Files: []string{"a.s", "b.s"}, Seqs: []lines.Seq{{Size: 137, Rows: want}}})
	if e != api.OK || !sameSection(s, api.Section{Name: ".debug_line", Type: api.ProgBits, Align: 1, Data: b, Size: len(b), Relocs: []api.Reloc{reloc(at[0], api.R64, ".text", 0)}}) {
		t.Error(s, relocs, at)
	}
}

// TestP1703LinesOfSections: a sequence for each one with a Loc, in the sections' order.
func TestP1703LinesOfSections(t *testing.T) {
	text := ".file 3 \"c\"; .file 1 \"a\"; .data; .section y, \"x\"; nop; .section z, \"x\"; nop; .section w, \"x\"; .loc 3 1; nop; .text; .loc 1 2; .section y, \"x\"; .loc 1 3; .loc 1 4; ret; .section w, \"x\"; .loc 3 5; .file 2 \"b\"; .file 3 \"c\""
	p, relocs := linesOf(t, text)
	row := func(at, file, line int) lines.Row { return lines.Row{At: at, File: file, Line: line} }
	want := []lines.Seq{{Size: 2, Rows: []lines.Row{row(1, 1, 3), row(1, 1, 4)}}, {Size: 1, Rows: []lines.Row{row(0, 3, 1), row(1, 3, 5)}}, {Size: 0, Rows: []lines.Row{row(0, 1, 2)}}}
	same := func(a, b lines.Seq) bool {
		return a.Start == b.Start && a.Size == b.Size && slices.Equal(a.Rows, b.Rows)
	}
	if !slices.Equal(p.Files, []string{"a", "b", "c"}) || !slices.EqualFunc(p.Seqs, want, same) {
		t.Error(p)
	}
	_, at, _ := lines.Write(p)
	for k, name := range []string{"y", "w", ".text"} {
		if relocs[k] != reloc(at[k], api.R64, name, 0) {
			t.Error(k, relocs[k])
		}
	}
	if l := assembled(t, ".file 1 \"a\"; .file 2 \"b\"; nop").Sections; len(l) != 1 {
		t.Error(l)
	}
}

// TestP1703LinesFar: the last numbers that may be told.
func TestP1703LinesFar(t *testing.T) {
	var files strings.Builder
	for n := 255; n > 0; n-- {
		files.WriteString(".file " + strconv.Itoa(n) + " \"f" + strconv.Itoa(n) + "\";")
	}
	p, _ := linesOf(t, files.String()+".loc 255 2147483647 65535; .zero 1000000; .loc 1 0 0")
	want := []lines.Row{{At: 0, File: 255, Line: 1<<31 - 1, Column: 65535}, {At: 1000000, File: 1, Line: 0}}
	if len(p.Files) != 255 || p.Files[254] != "f255" || p.Files[0] != "f1" || !slices.Equal(p.Seqs[0].Rows, want) {
		t.Error(p)
	}
}
