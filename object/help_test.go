package object_test

import (
	"bytes"
	"fmt"
	"math/rand/v2"
	"slices"
	"strings"
	"testing"

	"gangway/api"
	"gangway/cfa"
	"gangway/ehframe"
	"gangway/lines"
	"gangway/object"
	"gangway/parse"
	"gangway/relax"
)

func seeded(n uint64) *rand.Rand { return rand.New(rand.NewPCG(17, n)) }

func pick[T any](random *rand.Rand, l ...T) T { return l[random.IntN(len(l))] }

// short is what fits into a line of it.
func short(x any) string {
	s := fmt.Sprintf("%+v", x)
	if len(s) > 700 {
		return s[:700] + ".."
	}
	return s
}

// long is a name of so many bytes.
func long(n int) string { return strings.Repeat("n", n) }

// rows are so many lines.
func rows(n int, line func(k int) string) string {
	var b strings.Builder
	for k := range n {
		b.WriteString(line(k))
	}
	return b.String()
}

// many is as much of a row of lines as a text may have.
func many(line func(k int) string) string {
	var b strings.Builder
	for k := 0; ; k++ {
		s := line(k)
		if b.Len()+len(s) > api.MaxText {
			return b.String()
		}
		b.WriteString(s)
	}
}

func sameSection(a, b api.Section) bool {
	return a.Name == b.Name && a.Type == b.Type && a.Flags == b.Flags && a.Align == b.Align && bytes.Equal(a.Data, b.Data) && a.Size == b.Size && slices.Equal(a.Relocs, b.Relocs)
}

func sameFile(a, b api.File) bool {
	return slices.EqualFunc(a.Sections, b.Sections, sameSection) && slices.Equal(a.Symbols, b.Symbols)
}

func sameItem(a, b relax.Item) bool {
	return a.Kind == b.Kind && a.Inst == b.Inst && bytes.Equal(a.Data, b.Data) && a.Name == b.Name && a.N == b.N && a.Fill == b.Fill
}

func samePart(a, b object.Part) bool {
	return a.Name == b.Name && a.Type == b.Type && a.Flags == b.Flags && slices.EqualFunc(a.Items, b.Items, sameItem)
}

// assembled is the object of a text that has one.
func assembled(t *testing.T, text string) api.File {
	t.Helper()
	f, line, e := object.Assemble(text)
	if line != 0 || e != api.OK {
		t.Fatalf("Assemble(%s): line %d, error %d", short(text), line, e)
	}
	return f
}

// parted are the sections of a text that has an object.
func parted(t *testing.T, text string) []object.Part {
	t.Helper()
	l, line, e := object.Parts(text)
	if line != 0 || e != api.OK {
		t.Fatalf("Parts(%s): line %d, error %d", short(text), line, e)
	}
	return l
}

// refused: neither an object nor parts, for that error on that line.
func refused(t *testing.T, line int, e api.Errno, texts ...string) {
	t.Helper()
	for _, text := range texts {
		f, gotLine, gotE := object.Assemble(text)
		if len(f.Sections) != 0 || len(f.Symbols) != 0 || gotLine != line || gotE != e {
			t.Errorf("Assemble(%s): %s, line %d, error %d; want line %d, error %d", short(text), short(f), gotLine, gotE, line, e)
		}
		l, gotLine, gotE := object.Parts(text)
		if len(l) != 0 || gotLine != line || gotE != e {
			t.Errorf("Parts(%s): %s, line %d, error %d; want line %d, error %d", short(text), short(l), gotLine, gotE, line, e)
		}
	}
}

// accepted: texts that have an object.
func accepted(t *testing.T, texts ...string) {
	t.Helper()
	for _, text := range texts {
		assembled(t, text)
		parted(t, text)
	}
}

// sectionOf is the object's section of that name.
func sectionOf(t *testing.T, text, name string) api.Section {
	t.Helper()
	f := assembled(t, text)
	for _, s := range f.Sections {
		if s.Name == name {
			return s
		}
	}
	t.Fatalf("Assemble(%s): no section %s: %s", short(text), name, short(f))
	return api.Section{}
}

// checkData: the bytes of a section, and what is left to the linker.
func checkData(t *testing.T, text, name string, want []byte, relocs ...api.Reloc) {
	t.Helper()
	s := sectionOf(t, text, name)
	if !bytes.Equal(s.Data, want) || s.Size != len(want) || !slices.Equal(s.Relocs, relocs) {
		t.Errorf("Assemble(%s): %s has %v, size %d, %v; want %v, %v", short(text), name, s.Data, s.Size, s.Relocs, want, relocs)
	}
}

// checkNames: of the sections, one behind the other.
func checkNames(t *testing.T, text, names string) {
	t.Helper()
	var l []string
	for _, s := range assembled(t, text).Sections {
		l = append(l, s.Name)
	}
	if got := strings.Join(l, " "); got != names {
		t.Errorf("Assemble(%s): sections %s; want %s", short(text), got, names)
	}
}

func checkSymbols(t *testing.T, text string, want ...api.Symbol) {
	t.Helper()
	if l := assembled(t, text).Symbols; !slices.Equal(l, want) {
		t.Errorf("Assemble(%s): symbols\n%s; want\n%s", short(text), short(l), short(want))
	}
}

func reloc(at, kind int, name string, add int) api.Reloc {
	return api.Reloc{At: at, Type: kind, Symbol: name, Add: add}
}

// local, outside: symbols of which nothing was told.
func local(name, section string, value int) api.Symbol {
	return api.Symbol{Name: name, Section: section, Value: value}
}

func outside(name string) api.Symbol { return api.Symbol{Name: name, Bind: api.Global} }

// framesOf reads the table of frames back, each Begin being its reloc's Add alone.
func framesOf(t *testing.T, text string) ([]ehframe.Fde, []api.Reloc) {
	t.Helper()
	s := sectionOf(t, text, ".eh_frame")
	c, l, e := ehframe.Read(s.Data, 0)
	if e != api.OK || len(c) != 1 || c[0].Enc != ehframe.Pcrel+ehframe.S4 || !slices.Equal(c[0].Initial, cfa.Usual()) || len(l) != len(s.Relocs) {
		t.Fatalf("Assemble(%s): frames %v, %v, %v, error %d", short(text), s.Data, c, l, e)
	}
	return l, s.Relocs
}

// linesOf reads the table of lines back.
func linesOf(t *testing.T, text string) (lines.Program, []api.Reloc) {
	t.Helper()
	s := sectionOf(t, text, ".debug_line")
	p, e := lines.Read(s.Data)
	if e != api.OK || len(p.Seqs) != len(s.Relocs) {
		t.Fatalf("Assemble(%s): lines %v, %v, error %d", short(text), s.Data, p, e)
	}
	return p, s.Relocs
}

// stmts are the statements of a text that has them.
func stmts(text string) []parse.Stmt {
	l, line, e := parse.All(text)
	if e != api.OK {
		panic(fmt.Sprint(text, " line ", line, " error ", e))
	}
	return l
}

func inst(text string) relax.Item { return relax.Item{Kind: relax.Code, Inst: stmts(text)[0].Inst} }

func raw(b ...byte) relax.Item { return relax.Item{Kind: relax.Raw, Data: b} }

func mark(name string) relax.Item { return relax.Item{Kind: relax.Mark, Name: name} }

func alignTo(n int, fill byte) relax.Item { return relax.Item{Kind: relax.Align, N: n, Fill: fill} }

func space(n int, fill byte) relax.Item { return relax.Item{Kind: relax.Space, N: n, Fill: fill} }
