package object_test

import (
	"fmt"
	"slices"
	"sort"
	"testing"

	"gangway/api"
	"gangway/cfa"
	"gangway/ehframe"
	"gangway/elf"
	"gangway/expr"
	"gangway/lines"
	"gangway/object"
	"gangway/parse"
	"gangway/relax"
)

// model: the statements of a source; all that is asked of one is looked for anew among those ahead of it.
type model []parse.Stmt

// fault ends the model's work.
type fault struct {
	line int
	e    api.Errno
}

func fail(line int, e api.Errno) {
	if e != api.OK {
		panic(fault{line, e})
	}
}

func failIf(wrong bool, line int, e api.Errno) {
	if wrong {
		panic(fault{line, e})
	}
}

// modelAssemble is the chapter, sentence by sentence.
func modelAssemble(text string) (f api.File, parts []object.Part, line int, e api.Errno) {
	defer func() {
		if x := recover(); x != nil {
			f, parts, line, e = api.File{}, nil, x.(fault).line, x.(fault).e
		}
	}()
	l, line, e := parse.All(text)
	fail(line, e)
	m := model(l)
	for k := range m {
		m.check(k)
	}
	if k := m.open(len(m)); k >= 0 {
		fail(m[k].Line, api.ErrCfa)
	}
	for _, name := range m.sections() {
		_, _, _, e := relax.Bytes(m.items(name))
		fail(0, e)
	}
	for _, name := range m.sections() {
		f.Sections = append(f.Sections, m.section(name))
		kind, flags, _ := m.kind(len(m), name)
		parts = append(parts, object.Part{Name: name, Type: kind, Flags: flags, Items: m.items(name)})
	}
	f.Sections = append(f.Sections, m.frames()...)
	f.Sections = append(f.Sections, m.lines()...)
	f.Symbols = m.symbols(f.Sections)
	fail(0, elf.Check(f))
	return f, parts, 0, api.OK
}

// chosen: the section ahead of a statement.
func (m model) chosen(k int) string {
	for j := k - 1; j >= 0; j-- {
		if m[j].Kind == parse.Section {
			return m[j].Name
		}
	}
	return ".text"
}

// kind: of a section ahead of a statement, and whether it is there.
func (m model) kind(k int, name string) (kind, flags int, there bool) {
	for j := range k {
		if m[j].Kind == parse.Section && m[j].Name == name {
			return m[j].Args[0], m[j].Args[1], true
		}
		if m.chosen(j) == name && len(modelItems(m[j])) > 0 {
			return api.ProgBits, api.Alloc + api.Exec, true
		}
	}
	return api.ProgBits, api.Alloc + api.Exec, false
}

// open: the startproc that has no endproc ahead of a statement, or -1.
func (m model) open(k int) int {
	open := -1
	for j := range k {
		switch {
		case m[j].Kind == parse.Cfi && m[j].Name == "startproc":
			open = j
		case m[j].Kind == parse.Cfi && m[j].Name == "endproc":
			open = -1
		}
	}
	return open
}

// check: what the table says of a statement, and then what may stand in sections of NoBits.
func (m model) check(k int) {
	s := m[k]
	kind, flags, _ := m.kind(k, m.chosen(k))
	isExec := flags&api.Exec != 0
	open := m.open(k)
	switch s.Kind {
	case parse.Label:
		failIf(m[:k].label(s.Name) >= 0, s.Line, api.ErrLabel)
	case parse.Code, parse.Tlsgd, parse.Tlsld:
		failIf(!isExec, s.Line, api.ErrType)
	case parse.Section:
		kind, flags, there := m.kind(k, s.Name)
		failIf(there && (kind != s.Args[0] || flags != s.Args[1]), s.Line, api.ErrType)
		return
	case parse.Data:
		for _, v := range s.Values {
			failIf(v.Plus == "" && v.Minus == "" && !modelFits(v.N, 0, s.Args[0]), s.Line, api.ErrRange)
		}
	case parse.Cfi:
		if s.Name == "startproc" {
			failIf(open >= 0 || !isExec, s.Line, api.ErrCfa)
		} else {
			failIf(open < 0 || m.chosen(open) != m.chosen(k), s.Line, api.ErrCfa)
		}
	case parse.File:
		failIf(m.file(k, s.Args[0]) != "" && m.file(k, s.Args[0]) != s.Text, s.Line, api.ErrLine)
	case parse.Loc:
		failIf(m.file(k, s.Args[0]) == "", s.Line, api.ErrLine)
		failIf(!isExec, s.Line, api.ErrType)
	}
	failIf(kind == api.NoBits && !mayStandWithoutBytes(s), s.Line, api.ErrType)
}

func mayStandWithoutBytes(s parse.Stmt) bool {
	switch s.Kind {
	case parse.Data:
		return !slices.ContainsFunc(s.Values, func(v expr.Value) bool { return v.Plus != "" || v.Minus != "" || v.N != 0 })
	case parse.Align, parse.Zero:
		return s.Args[1] == 0
	}
	return s.Kind == parse.Label || len(modelItems(s)) == 0
}

// modelFits: a number and a small one more, as they truly are.
func modelFits(a, b, size int) bool {
	top := float64(a) + float64(b)
	switch {
	case size == 1:
		return top >= -128 && top <= 255
	case size == 4:
		return top >= -(1<<31) && top <= 1<<32-1
	}
	// Only what is below the least int does not fit, and only a sum of two that are below 0 may be.
	return a >= 0 || b >= 0 || a+b < 0
}

// file: the name that a number has ahead of a statement.
func (m model) file(k, n int) string {
	for _, s := range m[:k] {
		if s.Kind == parse.File && s.Args[0] == n {
			return s.Text
		}
	}
	return ""
}

// label: which statement it is, or -1.
func (m model) label(name string) int {
	return slices.IndexFunc(m, func(s parse.Stmt) bool { return s.Kind == parse.Label && s.Name == name })
}

// modelItems: what a statement puts in.
func modelItems(s parse.Stmt) []relax.Item {
	switch s.Kind {
	case parse.Label:
		return []relax.Item{mark(s.Name)}
	case parse.Code:
		return []relax.Item{{Kind: relax.Code, Inst: s.Inst}}
	case parse.Data:
		var l []relax.Item
		for _, v := range s.Values {
			if v.Plus != "" || v.Minus != "" {
				v.N = 0
			}
			l = append(l, raw(modelNumber(v.N, s.Args[0])...))
		}
		return l
	case parse.Ascii:
		return []relax.Item{raw([]byte(s.Text)...)}
	case parse.Align:
		return []relax.Item{alignTo(s.Args[0], byte(s.Args[1]))}
	case parse.Zero:
		return []relax.Item{space(s.Args[0], byte(s.Args[1]))}
	case parse.Tlsgd:
		return []relax.Item{raw([]byte("\x66\x48\x8d\x3d\x00\x00\x00\x00\x66\x66\x48\xe8\x00\x00\x00\x00")...)}
	case parse.Tlsld:
		return []relax.Item{raw([]byte("\x48\x8d\x3d\x00\x00\x00\x00\xe8\x00\x00\x00\x00")...)}
	}
	return nil
}

func modelNumber(n, size int) []byte {
	var b []byte
	for range size {
		b = append(b, byte(n))
		n >>= 8
	}
	return b
}

func (m model) items(name string) []relax.Item {
	var l []relax.Item
	for k, s := range m {
		if m.chosen(k) == name {
			l = append(l, modelItems(s)...)
		}
	}
	return l
}

// sections: names, in the order in which they are there; .text behind all, where only a table names it.
func (m model) sections() []string {
	var l []string
	add := func(name string) {
		if !slices.Contains(l, name) {
			l = append(l, name)
		}
	}
	for k, s := range m {
		switch {
		case s.Kind == parse.Section:
			add(s.Name)
		case len(modelItems(s)) > 0:
			add(m.chosen(k))
		}
	}
	for k, s := range m {
		if isNaming(s) {
			add(m.chosen(k))
		}
	}
	return l
}

func isNaming(s parse.Stmt) bool {
	return s.Kind == parse.Loc || s.Kind == parse.Cfi && s.Name == "startproc"
}

// place: of a statement in its section, which a label that is put in tells.
func (m model) place(k int) int {
	const here = "\x00"
	var l []relax.Item
	for j, s := range m {
		if j == k {
			l = append(l, mark(here))
		}
		if m.chosen(j) == m.chosen(k) {
			l = append(l, modelItems(s)...)
		}
	}
	return labelPlace(l, here)
}

func (m model) size(name string) int {
	const here = "\x00"
	return labelPlace(append(m.items(name), mark(here)), here)
}

func labelPlace(l []relax.Item, name string) int {
	_, _, labels, e := relax.Bytes(l)
	for _, x := range labels {
		if x.Name == name && e == api.OK {
			return x.At
		}
	}
	panic(fmt.Sprint("no place ", e))
}

// apart: of two labels of one section.
func (m model) apart(plus, minus string) (int, bool) {
	a, b := m.label(plus), m.label(minus)
	if a < 0 || b < 0 || m.chosen(a) != m.chosen(b) {
		return 0, false
	}
	return m.place(a) - m.place(b), true
}

func (m model) section(name string) api.Section {
	kind, flags, _ := m.kind(len(m), name)
	b, relocs, _, _ := relax.Bytes(m.items(name))
	s := api.Section{Name: name, Type: kind, Flags: flags, Align: 1, Size: len(b), Data: b, Relocs: relocs}
	if flags&api.Exec != 0 {
		s.Align = 16
	}
	for k, x := range m {
		if m.chosen(k) != name {
			continue
		}
		switch x.Kind {
		case parse.Align:
			s.Align = max(s.Align, x.Args[0])
		case parse.Tlsgd:
			s.Relocs = append(s.Relocs, reloc(m.place(k)+4, api.RTlsgd, x.Name, -4), reloc(m.place(k)+12, api.RPlt32, "__tls_get_addr", -4))
		case parse.Tlsld:
			s.Relocs = append(s.Relocs, reloc(m.place(k)+3, api.RTlsld, "__tls_get_addr", -4), reloc(m.place(k)+8, api.RPlt32, "__tls_get_addr", -4))
		case parse.Data:
			for i, v := range x.Values {
				m.putIn(&s, m.place(k)+i*x.Args[0], x.Args[0], v)
			}
		}
	}
	if kind == api.NoBits {
		s.Data = nil
	}
	sort.Slice(s.Relocs, func(i, j int) bool { return s.Relocs[i].At < s.Relocs[j].At })
	return s
}

func (m model) putIn(s *api.Section, at, size int, v expr.Value) {
	if v.Plus == "" && v.Minus == "" {
		return
	}
	if n, ok := m.apart(v.Plus, v.Minus); ok {
		failIf(!modelFits(n, v.N, size), 0, api.ErrRange)
		copy(s.Data[at:], modelNumber(n+v.N, size))
		return
	}
	minus := m.label(v.Minus)
	switch {
	case v.Minus == "" && size == 8:
		s.Relocs = append(s.Relocs, reloc(at, api.R64, v.Plus, v.N))
	case v.Minus == "" && size == 4:
		s.Relocs = append(s.Relocs, reloc(at, api.R32, v.Plus, v.N))
	case v.Minus != "" && v.Plus != "" && size == 4 && minus >= 0 && m.chosen(minus) == s.Name:
		s.Relocs = append(s.Relocs, reloc(at, api.RPc32, v.Plus, v.N+at-m.place(minus)))
	default:
		fail(0, api.ErrReloc)
	}
}

// frames: each Begin is made the address of its own bytes, so that 0 stands there.
func (m model) frames() []api.Section {
	var l []ehframe.Fde
	var relocs []api.Reloc
	for k, s := range m {
		if s.Kind != parse.Cfi || s.Name != "startproc" {
			continue
		}
		failIf(len(l) == 0 && slices.Contains(m.sections(), ".eh_frame"), 0, api.ErrType)
		begin := m.place(k)
		var events []cfa.Event
		j := k + 1
		for ; m[j].Kind != parse.Cfi || m[j].Name != "endproc"; j++ {
			if m[j].Kind == parse.Cfi {
				events = append(events, cfa.Event{At: m.place(j) - begin, Name: m[j].Name, Args: m[j].Args})
			}
		}
		ops, e := cfa.Compile(events, m.place(j)-begin)
		fail(0, e)
		l = append(l, ehframe.Fde{Size: m.place(j) - begin, Ops: ops})
		relocs = append(relocs, reloc(0, api.RPc32, m.chosen(k), begin))
	}
	if len(l) == 0 {
		return nil
	}
	c := []ehframe.Cie{{Enc: ehframe.Pcrel + ehframe.S4, Initial: cfa.Usual()}}
	_, at, e := ehframe.Write(c, l, 0, false)
	fail(0, e)
	for k := range l {
		l[k].Begin = at[k] + 8
		relocs[k].At = at[k] + 8
	}
	b, _, e := ehframe.Write(c, l, 0, false)
	fail(0, e)
	return []api.Section{{Name: ".eh_frame", Type: api.ProgBits, Flags: api.Alloc, Align: 8, Data: b, Size: len(b), Relocs: relocs}}
}

func (m model) lines() []api.Section {
	if !slices.ContainsFunc(m, func(s parse.Stmt) bool { return s.Kind == parse.Loc }) {
		return nil
	}
	failIf(slices.Contains(m.sections(), ".debug_line"), 0, api.ErrType)
	var p lines.Program
	for n := 255; n > 0; n-- {
		name := m.file(len(m), n)
		failIf(name == "" && len(p.Files) > 0, 0, api.ErrLine)
		if name != "" {
			p.Files = slices.Insert(p.Files, 0, name)
		}
	}
	var relocs []api.Reloc
	for _, name := range m.sections() {
		var rows []lines.Row
		for k, s := range m {
			if s.Kind == parse.Loc && m.chosen(k) == name {
				rows = append(rows, lines.Row{At: m.place(k), File: s.Args[0], Line: s.Args[1], Column: s.Args[2]})
			}
		}
		if len(rows) > 0 {
			p.Seqs = append(p.Seqs, lines.Seq{Size: m.size(name), Rows: rows})
			relocs = append(relocs, reloc(0, api.R64, name, 0))
		}
	}
	b, at, e := lines.Write(p)
	fail(0, e)
	for k := range relocs {
		relocs[k].At = at[k]
	}
	return []api.Section{{Name: ".debug_line", Type: api.ProgBits, Align: 1, Data: b, Size: len(b), Relocs: relocs}}
}

// told: the last one of a kind of statement for a name.
func (m model) told(kind int, name string) (parse.Stmt, bool) {
	for k := len(m) - 1; k >= 0; k-- {
		if m[k].Kind == kind && m[k].Name == name {
			return m[k], true
		}
	}
	return parse.Stmt{Args: []int{0}, Values: []expr.Value{{}}}, false
}

func (m model) symbols(sections []api.Section) []api.Symbol {
	var l []api.Symbol
	for _, name := range m.sections() {
		for k, s := range m {
			if isNaming(s) && m.chosen(k) == name {
				failIf(m.label(name) >= 0, 0, api.ErrLabel)
				l = append(l, local(name, name, 0))
				break
			}
		}
	}
	for k, s := range m {
		if s.Kind == parse.Label {
			l = append(l, m.labelSymbol(k, s.Name))
		}
	}
	add := func(name string) {
		if slices.ContainsFunc(l, func(s api.Symbol) bool { return s.Name == name }) {
			return
		}
		bind, isBound := m.told(parse.Bind, name)
		kind, _ := m.told(parse.Type, name)
		s := api.Symbol{Name: name, Bind: bind.Args[0], Type: kind.Args[0]}
		if !isBound {
			s.Bind = api.Global
			if name == "__tls_get_addr" {
				s.Bind = api.Weak
			}
		}
		l = append(l, s)
	}
	for _, s := range sections {
		for _, r := range s.Relocs {
			add(r.Symbol)
		}
	}
	for _, s := range m {
		if bind, _ := m.told(parse.Bind, s.Name); s.Kind == parse.Bind && bind.Args[0] != api.Local {
			add(s.Name)
		}
	}
	return l
}

func (m model) labelSymbol(k int, name string) api.Symbol {
	_, flags, _ := m.kind(len(m), m.chosen(k))
	bind, _ := m.told(parse.Bind, name)
	kind, isTyped := m.told(parse.Type, name)
	size, _ := m.told(parse.Size, name)
	s := api.Symbol{Name: name, Section: m.chosen(k), Value: m.place(k), Bind: bind.Args[0], Type: kind.Args[0]}
	if flags&api.TlsFlag != 0 && !isTyped {
		s.Type = api.Tls
	}
	v := size.Values[0]
	n, ok := m.apart(v.Plus, v.Minus)
	failIf(!ok && (v.Plus != "" || v.Minus != ""), 0, api.ErrExpr)
	s.Size = n + v.N
	failIf(s.Size < 0, 0, api.ErrExpr)
	return s
}

func checkModel(t *testing.T, text string) api.Errno {
	t.Helper()
	want, wantParts, wantLine, wantE := modelAssemble(text)
	f, line, e := object.Assemble(text)
	if !sameFile(f, want) || line != wantLine || e != wantE {
		t.Fatalf("Assemble(\n%s):\n%s, line %d, error %d; want\n%s, line %d, error %d", text, short(f), line, e, short(want), wantLine, wantE)
	}
	l, line, e := object.Parts(text)
	if !slices.EqualFunc(l, wantParts, samePart) || line != wantLine || e != wantE {
		t.Fatalf("Parts(\n%s):\n%s, line %d, error %d; want\n%s, line %d, error %d", text, short(l), line, e, short(wantParts), wantLine, wantE)
	}
	return e
}

// TestP1703AgainstModel: sources of all sorts of statements, most of them right; with one that is wrong, or may be, in some.
func TestP1703AgainstModel(t *testing.T) {
	random := seeded(1)
	ends := map[api.Errno]int{}
	for range 3000 {
		l := anySource(random, 30)
		if random.IntN(2) == 0 {
			l = slices.Insert(l, random.IntN(len(l)+1), wildLine(random))
		}
		ends[checkModel(t, joined(random, l))]++
	}
	for _, e := range []api.Errno{api.ErrLabel, api.ErrType, api.ErrCfa, api.ErrLine, api.ErrRange, api.ErrReloc, api.ErrExpr, api.ErrSymbol} {
		if ends[e] < 10 {
			t.Error("the sources are too plain:", ends)
		}
	}
	if ends[api.OK] < 1200 {
		t.Error("the sources are too wild:", ends)
	}
}
