package object_test

import (
	"slices"
	"strconv"
	"strings"
	"testing"

	"gangway/api"
	"gangway/lexer"
	"gangway/object"
)

// checkEnds: both calls answer one error and line, and beside an error nothing else.
func checkEnds(t *testing.T, text string) api.Errno {
	t.Helper()
	f, line, e := object.Assemble(text)
	l, lineOfParts, eOfParts := object.Parts(text)
	if line != lineOfParts || e != eOfParts || line < 0 || e == api.OK && line != 0 {
		t.Fatalf("%s: %d %d, %d %d", short(text), line, e, lineOfParts, eOfParts)
	}
	if e != api.OK && (len(f.Sections) != 0 || len(f.Symbols) != 0 || len(l) != 0) {
		t.Fatalf("%s: %d: %s, %s", short(text), e, short(f), short(l))
	}
	return e
}

// TestP1NothingPanics: texts of all sorts of bytes, tokens and lines.
func TestP1NothingPanics(t *testing.T) {
	random := seeded(10)
	tokens := []string{".text", ".data", ".bss", ".section", ".byte", ".long", ".quad", ".ascii", ".balign", ".zero", ".globl", ".type", ".size", ".set", ".cfi_startproc", ".cfi_endproc", ".cfi_offset", ".file", ".loc", ".tlsgd", ".tlsld", "jmp", "call", "nop", "short", "a", "b", ":", ":", ",", ";", "\n", "-", "+", "@", "1", "16", "300", "0x7fffffffffffffff", "%rax", "%rip", "(", ")", "$", "\"aw\"", "\"ax\"", "\"f\"", "nobits", "object", "plt"}
	for range 30000 {
		var b strings.Builder
		for range random.IntN(12) {
			b.WriteString(pick(random, tokens...) + pick(random, " ", " ", ""))
		}
		checkEnds(t, b.String())
	}
	for range 3000 {
		var b []byte
		for range random.IntN(40) {
			b = append(b, byte(random.IntN(256)))
		}
		checkEnds(t, string(b))
	}
	for range 3000 {
		var l []string
		for range random.IntN(8) {
			l = append(l, wildLine(random))
		}
		checkEnds(t, joined(random, l))
	}
}

// TestP1MuchEnds: as much as a text may ask for.
func TestP1MuchEnds(t *testing.T) {
	name := func(k int) string { return strconv.FormatInt(int64(k), 36) }
	for _, c := range []struct {
		text string
		e    api.Errno
	}{
		{many(func(k int) string { return ".section x" + name(k) + ";.zero 1<<20;" }), api.ErrSize},
		{many(func(k int) string { return ".section x" + name(k) + ";.byte b-a;" }) + "a:b:", api.ErrSize},
		{many(func(k int) string { return ".cfi_startproc;.cfi_endproc;" }), api.OK},
		{many(func(k int) string { return "a" + name(k) + ":" }), api.ErrSize},
		{many(func(k int) string { return ".globl a" + name(k) + ";" }), api.ErrSize},
		{"jmp a0;" + rows(1990, func(k int) string { return "jmp a" + name(k+1) + ";a" + name(k) + ":.zero 125;" }), api.OK},
		{"jmp a0;" + rows(2500, func(k int) string { return "jmp a" + name(k+1) + ";a" + name(k) + ":.zero 125;" }), api.ErrSize},
		{".file 1 \"a\"" + many(func(k int) string { return ";.loc 1 1" })[:59994], api.ErrLine},
		{"a:.zero 9;b:.byte b-a" + many(func(k int) string { return ",b-a" })[:60000], api.OK},
		{"a:.zero 9;b:.quad b-a" + many(func(k int) string { return ",b-a" })[:60000], api.OK},
		{".quad a" + many(func(k int) string { return ",a" })[:60000], api.ErrSize},
		{many(func(k int) string { return ".tlsld;" }), api.ErrSize},
		{".data; .ascii \"" + long(60000) + "\"", api.OK},
		{long(256) + ":", api.ErrToken},
		{long(255) + ": .quad " + long(255), api.OK},
		{".file 1 " + lexer.Quote(strings.Repeat("\xff", 255)) + "; .loc 1 1", api.OK},
		{strings.Repeat("x", 1<<24), api.ErrSize},
	} {
		if e := checkEnds(t, c.text); e != c.e {
			t.Errorf("%s: %d; want %d", short(c.text), e, c.e)
		}
	}
}

// spoil writes over a list and the room behind it.
func spoil[T any](l []T) { clear(l[:cap(l)]) }

func spoilFile(f api.File) {
	for _, s := range f.Sections {
		spoil(s.Data)
		spoil(s.Relocs)
	}
	spoil(f.Symbols)
	spoil(f.Sections)
}

const sample = ".globl f; f: .cfi_startproc; call g; .cfi_def_cfa_offset 16; .file 1 \"a\"; .loc 1 1; .tlsgd v; jmp f; .byte b - f; b: .cfi_endproc; .data; x: .quad x, x, 7; .ascii \"abc\"; .long 5, 6; .section y, \"x\"; .cfi_startproc; .loc 1 5; ret; .tlsld; .cfi_endproc; .bss; .zero 9"

// TestP1AnswersAreNew: what is done to one list of an answer, and to the room behind it, is seen nowhere else.
func TestP1AnswersAreNew(t *testing.T) {
	want, _, _, e := modelAssemble(sample)
	if e != api.OK {
		t.Fatal(e)
	}
	f, other := assembled(t, sample), assembled(t, sample)
	for k := range f.Sections {
		spoil(f.Sections[k].Data)
		for i := k + 1; i < len(f.Sections); i++ {
			if !sameSection(f.Sections[i], want.Sections[i]) {
				t.Error(k, i, f.Sections[i])
			}
		}
		if !slices.Equal(f.Sections[k].Relocs, want.Sections[k].Relocs) {
			t.Error(k, f.Sections[k])
		}
		spoil(f.Sections[k].Relocs)
	}
	if !slices.Equal(f.Symbols, want.Symbols) || !sameFile(other, want) {
		t.Error(f.Symbols, other)
	}
	spoilFile(f)
	if !sameFile(other, want) || !sameFile(assembled(t, sample), want) {
		t.Error(other)
	}
}

func TestP1PartsAreNew(t *testing.T) {
	_, want, _, _ := modelAssemble(sample)
	l, other := parted(t, sample), parted(t, sample)
	for k := range l {
		for i := range l[k].Items {
			if !sameItem(l[k].Items[i], want[k].Items[i]) {
				t.Error(k, i, l[k].Items[i])
			}
			spoil(l[k].Items[i].Data)
		}
		spoil(l[k].Items)
	}
	spoil(l)
	if !slices.EqualFunc(other, want, samePart) || !slices.EqualFunc(parted(t, sample), want, samePart) {
		t.Error(other)
	}
}

// TestP1701TheSameAgain: what is answered hangs on the text alone, many times and side by side.
func TestP1701TheSameAgain(t *testing.T) {
	random := seeded(11)
	type answer struct {
		text  string
		f     api.File
		parts []object.Part
		line  int
		e     api.Errno
	}
	var wants []answer
	for range 300 {
		a := answer{text: joined(random, append(anySource(random, 25), wildLine(random)))}
		a.f, a.parts, a.line, a.e = modelAssemble(a.text)
		wants = append(wants, a)
	}
	done := make(chan bool)
	for range 8 {
		go func() {
			right := true
			for _, a := range wants {
				f, line, e := object.Assemble(a.text)
				parts, lineOfParts, eOfParts := object.Parts(a.text)
				right = right && sameFile(f, a.f) && line == a.line && e == a.e && slices.EqualFunc(parts, a.parts, samePart) && lineOfParts == a.line && eOfParts == a.e
			}
			done <- right
		}()
	}
	for range 8 {
		if !<-done {
			t.Error("not the same again")
		}
	}
}
