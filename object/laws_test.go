package object_test

import (
	"bytes"
	"math/rand/v2"
	"regexp"
	"slices"
	"strconv"
	"strings"
	"testing"

	"gangway/api"
	"gangway/elf"
	"gangway/object"
	"gangway/relax"
)

// rightSources are so many that have an object, as lists of lines.
func rightSources(random *rand.Rand, n, most int) [][]string {
	var l [][]string
	for len(l) < n {
		lines := anySource(random, most)
		if _, _, e := object.Assemble(strings.Join(lines, "\n")); e == api.OK {
			l = append(l, lines)
		}
	}
	return l
}

// TestP1703Elf: what comes out is written, and read back.
func TestP1703Elf(t *testing.T) {
	for _, l := range rightSources(seeded(2), 500, 50) {
		f := assembled(t, strings.Join(l, "\n"))
		b, e := elf.Write(f)
		back, eBack := elf.Read(b)
		slices.SortStableFunc(f.Symbols, func(a, b api.Symbol) int { return min(a.Bind, 1) - min(b.Bind, 1) })
		if elf.Check(f) != api.OK || e != api.OK || eBack != api.OK || !sameFile(f, back) {
			t.Fatalf("%s:\n%s, %d, %d, %s", strings.Join(l, "\n"), short(f), e, eBack, short(back))
		}
	}
	// One that is too much for a file is an object all the same.
	f := assembled(t, ".data; .zero 1048576")
	if _, e := elf.Write(f); e != api.ErrSize || elf.Check(f) != api.OK {
		t.Error(e)
	}
}

// TestP1704LineByLine: remarks, blanks, empty lines and ; for line feeds change nothing.
func TestP1704LineByLine(t *testing.T) {
	random := seeded(3)
	for _, l := range rightSources(random, 300, 40) {
		f, parts := assembled(t, strings.Join(l, "\n")), parted(t, strings.Join(l, "\n"))
		var b strings.Builder
		for _, line := range l {
			if !strings.Contains(line, "\"") {
				line = strings.ReplaceAll(line, ",", pick(random, " ,", ",\t ", ",  "))
				line = strings.ReplaceAll(line, " ", pick(random, " ", "  ", "\t"))
			}
			b.WriteString(pick(random, "", " ", "\t\t") + line + pick(random, "\n", ";", " ;; ", "# no: \".x\n", " # ; a: a:\n", "\n\n \n# foo\n"))
		}
		if g := assembled(t, b.String()); !sameFile(f, g) {
			t.Fatalf("%s:\n%s; want\n%s", b.String(), short(g), short(f))
		}
		if p := parted(t, b.String()); !slices.EqualFunc(p, parts, samePart) {
			t.Fatalf("%s:\n%s; want\n%s", b.String(), short(p), short(parts))
		}
	}
}

// TestP1704Names: names of labels that begin with .L made other ones change the names alone.
func TestP1704Names(t *testing.T) {
	random := seeded(4)
	names := regexp.MustCompile(`\.L[0-9]+`)
	renamed := func(s string) string {
		return names.ReplaceAllStringFunc(s, func(name string) string {
			n, _ := strconv.Atoi(name[2:])
			return ".L" + strings.Repeat("z", n%7) + "." + strconv.Itoa(1000-n)
		})
	}
	seen := 0
	for _, l := range rightSources(random, 300, 40) {
		text := strings.Join(l, "\n")
		f := assembled(t, text)
		for k := range f.Symbols {
			f.Symbols[k].Name = renamed(f.Symbols[k].Name)
		}
		for k := range f.Sections {
			for i := range f.Sections[k].Relocs {
				f.Sections[k].Relocs[i].Symbol = renamed(f.Sections[k].Relocs[i].Symbol)
			}
		}
		if g := assembled(t, renamed(text)); !sameFile(f, g) {
			t.Fatalf("%s:\n%s; want\n%s", renamed(text), short(g), short(f))
		}
		if renamed(text) != text {
			seen++
		}
	}
	if seen < 100 {
		t.Error(seen)
	}
}

// TestP1705Behind: labels behind a source change none of its bytes.
func TestP1705Behind(t *testing.T) {
	random := seeded(5)
	for _, l := range rightSources(random, 300, 40) {
		text := strings.Join(l, "\n")
		more := text + "\n" + pick(random, "zz1:", "zz1: zz2:", "zz1:\nzz2: zz3:\n")
		f, g := assembled(t, text), assembled(t, more)
		k := 0
		for _, s := range g.Sections {
			if k < len(f.Sections) && s.Name == f.Sections[k].Name {
				if !sameSection(s, f.Sections[k]) {
					t.Fatalf("%s:\n%s; want\n%s", more, short(s), short(f.Sections[k]))
				}
				k++
			} else if s.Name != ".text" || s.Size != 0 {
				// The first thing that is put into .text makes it be there.
				t.Fatalf("%s:\n%s", more, short(s))
			}
		}
		if k < len(f.Sections) {
			t.Fatalf("%s:\n%s; want\n%s", more, short(g), short(f))
		}
	}
}

// TestP1705InOrder: the items of the first lines are the beginning of the items of all.
func TestP1705InOrder(t *testing.T) {
	random := seeded(6)
	halves := 0
	for _, l := range rightSources(random, 300, 40) {
		whole := parted(t, strings.Join(l, "\n"))
		half, _, e := object.Parts(strings.Join(l[:random.IntN(len(l)+1)], "\n"))
		if e != api.OK {
			continue
		}
		halves++
		for _, p := range half {
			at := slices.IndexFunc(whole, func(x object.Part) bool { return x.Name == p.Name })
			if at < 0 || len(whole[at].Items) < len(p.Items) || !slices.EqualFunc(whole[at].Items[:len(p.Items)], p.Items, sameItem) {
				t.Fatalf("%s:\n%s; want\n%s", strings.Join(l, "\n"), short(whole), short(p))
			}
		}
	}
	if halves < 100 {
		t.Error(halves)
	}
}

// TestP1705Bytes: but for what is put in later, a section's bytes are those of its items.
func TestP1705Bytes(t *testing.T) {
	for _, l := range rightSources(seeded(7), 300, 40) {
		text := strings.Join(l, "\n")
		if strings.Contains(text, " - ") {
			continue
		}
		f := assembled(t, text)
		for k, p := range parted(t, text) {
			b, _, _, e := relax.Bytes(p.Items)
			if p.Type == api.NoBits {
				b = nil
			}
			if e != api.OK || !bytes.Equal(b, f.Sections[k].Data) {
				t.Fatalf("%s:\n%s; want %v", text, short(f.Sections[k]), b)
			}
		}
	}
}

// TestP1706EachOnce: an entry for each startproc, a row for each Loc.
func TestP1706EachOnce(t *testing.T) {
	random := seeded(8)
	procedures, rows := 0, 0
	for _, l := range rightSources(random, 300, 60) {
		text := strings.Join(l, "\n")
		if n := strings.Count(text, "startproc"); n > 0 {
			frames, relocs := framesOf(t, text)
			if len(frames) != n || len(relocs) != n {
				t.Fatalf("%s:\n%v", text, frames)
			}
			procedures += n
		} else if strings.Contains(short(assembled(t, text)), "Name:.eh_frame") {
			t.Fatal(text)
		}
		if n := strings.Count(text, ".loc "); n > 0 {
			p, _ := linesOf(t, text)
			got := 0
			for _, s := range p.Seqs {
				got += len(s.Rows)
			}
			if got != n {
				t.Fatalf("%s:\n%v", text, p)
			}
			rows += n
		} else if strings.Contains(short(assembled(t, text)), "Name:.debug_line") {
			t.Fatal(text)
		}
	}
	if procedures < 100 || rows < 100 {
		t.Error(procedures, rows)
	}
	frames, _ := framesOf(t, strings.Repeat(".cfi_startproc;.cfi_endproc;", 2000))
	if len(frames) != 2000 {
		t.Error(len(frames))
	}
}
