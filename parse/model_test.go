package parse_test

import (
	"fmt"
	"slices"
	"strings"

	"gangway/api"
	"gangway/expr"
	"gangway/forms"
	"gangway/lexer"
	"gangway/parse"
)

// The model: the chapter's shapes as rules, of which all alternatives are tried on the tokens of a part; where none fits, the error is that of the one that came farthest (where one of these awaits an expression, ErrExpr).

// rules: each a list of alternatives, each of these a row of elements; one in <> is a rule again.
func rules() map[string][]string {
	both, number, register := []string{"reg8 , -2147483648..2147483647", "0..16 , -2147483648..2147483647"}, []string{"-2147483648..2147483647"}, []string{"reg8", "0..16"}
	fill := []string{"", ", 0..255"}
	m := map[string][]string{
		".text": {""}, ".data": {""}, ".bss": {""}, ".rodata": {""},
		".section": {"name", "name , flags", "name , flags , @ stype"},
		".byte":    {"value", "value , <.byte>"}, ".long": {"<.byte>"}, ".quad": {"<.byte>"},
		".ascii": {"text", "text , <.ascii>"}, ".asciz": {"<.ascii>"},
		".balign": {"1..4096 <fill>"}, ".zero": {"0..1048576 <fill>"}, "fill": fill,
		".globl": {"name"}, ".weak": {"name"}, ".local": {"name"},
		".type": {"name , @ type"}, ".size": {"name , value"}, ".set": {"new , value"},
		".cfi_startproc": {""}, ".cfi_endproc": {""}, ".cfi_remember_state": {""}, ".cfi_restore_state": {""},
		".cfi_def_cfa": both, ".cfi_offset": both, ".cfi_rel_offset": both,
		".cfi_def_cfa_offset": number, ".cfi_adjust_cfa_offset": number,
		".cfi_def_cfa_register": register, ".cfi_restore": register, ".cfi_undefined": register, ".cfi_same_value": register,
		".file": {"1..255 path"}, ".loc": {"1..255 0..2147483647", "1..255 0..2147483647 0..65535"},
		".tlsgd": {"name"}, ".tlsld": {""},

		"any": {"", "begin <operand>", "begin <operand> , begin <operand>"}, "call": {"", "begin <goes>", "begin <goes> , begin <goes>"}, "jcc": {"", "begin <target>", "begin <target> , begin <target>"},
		"operand": {"<place>", "$ imm"}, "goes": {"<target>", "* !$ <place>"},
		"place":  {"reg", "<mem>"},
		"mem":    {"%fs : <disp>", "(% <in> )", "<disp> ( <in> )"},
		"in":     {"%rip", "base", "base , index , scale"},
		"disp":   {"sum", "label @ mod", "label @ mod signed"},
		"target": {"goal", "goal @ =plt", ". signed"},
	}
	return m
}

// event: what an element found.
type event struct {
	what, text string
	n, size    int
	v          expr.Value
}

// matcher: of one part.
type matcher struct {
	tokens []lexer.Token
	known  []expr.Def
	rules  map[string][]string
	reach  int
	e      api.Errno
}

func (m *matcher) token(at int) lexer.Token {
	if at >= len(m.tokens) {
		return lexer.Token{Kind: lexer.End}
	}
	return m.tokens[at]
}

// fail: the farthest one counts; a token that was of the right sort, and wrong otherwise, counts as half gone past.
func (m *matcher) fail(at int, half bool, e api.Errno) {
	reach := 2 * at
	if half {
		reach++
	}
	if reach > m.reach || reach == m.reach && e == api.ErrExpr {
		m.reach, m.e = reach, e
	}
}

// run: the events of the first alternative that fits, up to the end.
func (m *matcher) run(row string, at int, found []event) ([]event, bool) {
	first, rest, _ := strings.Cut(row, " ")
	switch {
	case row == "":
		if m.token(at).Kind == lexer.End {
			return found, true
		}
		m.fail(at, false, api.ErrSyntax)
		return nil, false
	case first[0] == '<':
		for _, alternative := range m.rules[strings.Trim(first, "<>")] {
			if l, ok := m.run(strings.TrimSpace(alternative+" "+rest), at, found); ok {
				return l, true
			}
		}
		return nil, false
	}
	ev, end, ok := m.element(first, at)
	if !ok {
		return nil, false
	}
	return m.run(rest, end, append(found[:len(found):len(found)], ev))
}

// element: one that is no rule; what it found, and where it ends. (begin and !$ go past nothing: the latter bars an Imm, which is of another shape ahead of all that is awaited.)
func (m *matcher) element(what string, at int) (event, int, bool) {
	t := m.token(at)
	right, kind := true, lexer.Name
	ev := event{what: what, text: t.Text}
	switch what {
	case "begin":
		return ev, at, true
	case "!$":
		if t.Kind == lexer.Sign && t.Text == "$" {
			m.fail(at, true, api.ErrSyntax)
			return event{}, 0, false
		}
		return ev, at, true
	case ",", "@", ":", "(", ")", "$", "*":
		kind, right = lexer.Sign, true
		if t.Text != what {
			kind = -1
		}
	case "(%":
		kind = lexer.Sign
		if t.Text != "(" || m.token(at+1).Kind != lexer.Register {
			kind = -1
		}
	case "%fs", "%rip":
		kind = lexer.Register
		if "%"+t.Text != what {
			kind = -1
		}
	case ".":
		if t.Text != "." {
			kind = -1
		}
	case "reg", "reg8", "base", "index":
		kind = lexer.Register
		ev.n, ev.size, right = forms.Number(t.Text)
		right = right && (what == "reg" || ev.size == 8)
	case "label":
		if behind := m.token(at + 1); behind.Kind != lexer.Sign || behind.Text != "@" {
			kind = -1
		}
	case "name", "goal":
	case "new":
		right = !slices.ContainsFunc(m.known, func(d expr.Def) bool { return d.Name == t.Text })
	case "=plt":
		right = t.Text == "plt"
	case "mod", "type", "stype":
		ev.n, right = modelWords(what)[t.Text]
	case "text":
		kind = lexer.Text
	case "path":
		kind = lexer.Text
		right = len(t.Text) >= 1 && len(t.Text) <= 255 && !strings.Contains(t.Text, "\x00")
	case "flags":
		kind = lexer.Text
		ev.n, right = modelFlags(t.Text)
	default:
		return m.expression(what, at)
	}
	if t.Kind != kind || !right {
		m.fail(at, t.Kind == kind, api.ErrSyntax)
		return event{}, 0, false
	}
	if what == "(%" {
		ev.what = "("
	}
	return ev, at + 1, true
}

func modelWords(what string) map[string]int {
	switch what {
	case "mod":
		return map[string]int{"plt": 1, "gotpcrel": 2, "gottpoff": 3, "tpoff": 4, "dtpoff": 5}
	case "type":
		return map[string]int{"notype": 0, "object": 1, "function": 2, "tls_object": 6, "gnu_indirect_function": 10}
	}
	return map[string]int{"progbits": 1, "nobits": 8, "init_array": 14, "fini_array": 15}
}

func modelFlags(text string) (int, bool) {
	flags := 0
	for letter, flag := range map[string]int{"a": 2, "w": 1, "x": 4, "T": 1024} {
		switch strings.Count(text, letter) {
		case 0:
		case 1:
			flags += flag
			text = strings.Replace(text, letter, "", 1)
		default:
			return 0, false
		}
	}
	return flags, text == ""
}

// expression: value, sum (no Minus), imm, signed, scale, or a number from .. to.
func (m *matcher) expression(what string, at int) (event, int, bool) {
	t := m.token(at)
	if what == "signed" && (t.Kind != lexer.Sign || t.Text != "+" && t.Text != "-") {
		m.fail(at, false, api.ErrSyntax)
		return event{}, 0, false
	}
	v, end, e := expr.Eval(m.tokens, at, m.known)
	if e != api.OK {
		m.fail(at, false, api.ErrExpr)
		return event{}, 0, false
	}
	isNumber, right := v.Plus == "" && v.Minus == "", true
	low, high := 0, 0
	switch what {
	case "value":
	case "sum":
		right = v.Minus == ""
	case "imm", "signed":
		right = isNumber
	case "scale":
		right = isNumber && slices.Contains([]int{1, 2, 4, 8}, v.N)
	default:
		fmt.Sscanf(what, "%d..%d", &low, &high)
		right = isNumber && v.N >= low && v.N <= high
		if what == "1..4096" {
			right = right && slices.Contains([]int{1, 2, 4, 8, 16, 32, 64, 128, 256, 512, 1024, 2048, 4096}, v.N)
		}
		what = "number"
	}
	if !right {
		m.fail(at, true, api.ErrSyntax)
		return event{}, 0, false
	}
	return event{what: what, n: v.N, v: v}, end, true
}

// modelAll: part by part.
func modelAll(text string) ([]parse.Stmt, int, api.Errno) {
	tokens, line, e := lexer.All(text)
	if e != api.OK {
		return nil, line, e
	}
	var l []parse.Stmt
	var known []expr.Def
	shapes := rules()
	for len(tokens) > 0 {
		end := slices.IndexFunc(tokens, func(t lexer.Token) bool { return t.Kind == lexer.End })
		part := tokens[:end]
		line := tokens[end].Line
		tokens = tokens[end+1:]
		for len(part) >= 2 && part[0].Kind == lexer.Name && part[1].Kind == lexer.Sign && part[1].Text == ":" {
			l = append(l, parse.Stmt{Kind: parse.Label, Line: line, Name: part[0].Text})
			part = part[2:]
		}
		if len(part) == 0 {
			continue
		}
		s, e := modelStatement(&matcher{tokens: part[1:], known: known, rules: shapes, reach: -1}, part[0])
		if e != api.OK {
			return nil, line, e
		}
		if s.Kind == parse.Set {
			known = append(known, expr.Def{Name: s.Name, V: s.Values[0]})
		}
		s.Line = line
		l = append(l, s)
	}
	return l, 0, api.OK
}

func modelStatement(m *matcher, first lexer.Token) (parse.Stmt, api.Errno) {
	if first.Kind != lexer.Name {
		return parse.Stmt{}, api.ErrSyntax
	}
	if first.Text[0] != '.' {
		return modelInstruction(m, first.Text)
	}
	if m.rules[first.Text] == nil {
		return parse.Stmt{}, api.ErrSyntax
	}
	l, ok := m.run("<"+first.Text+">", 0, nil)
	if !ok {
		return parse.Stmt{}, m.e
	}
	return modelDirective(first.Text, l), api.OK
}

// kindOf: of a directive's name.
func kindOf(name string) int {
	if strings.HasPrefix(name, ".cfi_") {
		return parse.Cfi
	}
	return map[string]int{".byte": parse.Data, ".long": parse.Data, ".quad": parse.Data, ".ascii": parse.Ascii, ".asciz": parse.Ascii, ".balign": parse.Align, ".zero": parse.Zero, ".globl": parse.Bind, ".weak": parse.Bind, ".local": parse.Bind, ".type": parse.Type, ".size": parse.Size, ".set": parse.Set, ".file": parse.File, ".loc": parse.Loc, ".tlsgd": parse.Tlsgd, ".tlsld": parse.Tlsld, ".section": parse.Section, ".text": parse.Section, ".data": parse.Section, ".bss": parse.Section, ".rodata": parse.Section}[name]
}

func modelDirective(name string, found []event) parse.Stmt {
	s := parse.Stmt{Kind: kindOf(name)}
	flagged := false
	for _, ev := range found {
		switch ev.what {
		case "name", "new":
			s.Name = ev.text
		case "value":
			s.Values = append(s.Values, ev.v)
		case "text", "path":
			s.Text += ev.text
			if name == ".asciz" {
				s.Text += "\x00"
			}
		case "flags":
			s.Args, flagged = []int{api.ProgBits, ev.n}, true
		case "stype":
			s.Args[0] = ev.n
		case "reg8":
			s.Args = append(s.Args, []int{0, 2, 1, 3, 7, 6, 4, 5, 8, 9, 10, 11, 12, 13, 14, 15}[ev.n])
		case "number", "type":
			s.Args = append(s.Args, ev.n)
		}
	}
	switch s.Kind {
	case parse.Section:
		if s.Name == "" {
			s.Name = name
		}
		if !flagged {
			args, ok := usual()[s.Name]
			if !ok {
				args = [2]int{api.ProgBits, 0}
			}
			s.Args = args[:]
		}
	case parse.Data:
		s.Args = []int{map[string]int{".byte": 1, ".long": 4, ".quad": 8}[name]}
	case parse.Bind:
		s.Args = []int{map[string]int{".globl": 1, ".weak": 2, ".local": 0}[name]}
	case parse.Align, parse.Zero:
		s.Args = append(s.Args, 0)[:2]
	case parse.Loc:
		s.Args = append(s.Args, 0)[:3]
	case parse.Cfi:
		s.Name = name[len(".cfi_"):]
	}
	return s
}

// sized: an operand, and the size of its register as it is written.
type sized struct {
	o    api.Operand
	size int
}

func modelOperands(found []event) []sized {
	var l []sized
	for _, ev := range found {
		if ev.what == "begin" {
			l = append(l, sized{})
			continue
		}
		x := &l[max(len(l)-1, 0)]
		if slices.Contains([]string{"%fs", "(", "sum", "label"}, ev.what) && x.o.Kind == api.None {
			x.o = api.Operand{Kind: api.Mem, Base: -1, Index: -1}
		}
		switch ev.what {
		case "reg":
			x.o, x.size = api.Operand{Kind: api.Reg, R: ev.n}, ev.size
		case "imm":
			x.o = api.Operand{Kind: api.Imm, N: ev.n}
		case "%fs":
			x.o.Fs = true
		case "%rip":
			x.o.Rip = true
		case "base":
			x.o.Base = ev.n
		case "index":
			x.o.Index = ev.n
		case "scale":
			x.o.Scale = ev.n
		case "sum":
			x.o.Name, x.o.N = ev.v.Plus, ev.n
		case "label":
			x.o.Name = ev.text
		case "mod":
			x.o.Mod = ev.n
		case "signed":
			x.o.N = ev.n
		case "goal":
			x.o = api.Operand{Kind: api.Target, Name: ev.text}
		case "=plt":
			x.o.Mod = api.Plt
		case ".":
			x.o = api.Operand{Kind: api.Target}
		}
	}
	return l
}

func modelInstruction(m *matcher, name string) (parse.Stmt, api.Errno) {
	i := api.Inst{}
	ok := false
	i.Op, i.Size, i.Cond, ok = forms.Find(name)
	if !ok {
		return parse.Stmt{}, api.ErrSyntax
	}
	rule := map[int]string{api.Call: "<call>", api.Jmp: "<call>", api.Jcc: "<jcc>"}[i.Op]
	if rule == "" {
		rule = "<any>"
	}
	if (i.Op == api.Jmp || i.Op == api.Jcc) && len(m.tokens) > 1 && m.tokens[0] == (lexer.Token{Kind: lexer.Name, Line: m.tokens[0].Line, Text: "short"}) {
		i.Short = true
		m.tokens = m.tokens[1:]
	}
	found, ok := m.run(rule, 0, nil)
	if !ok {
		return parse.Stmt{}, m.e
	}
	l := modelOperands(found)
	switch {
	case len(l) == 2:
	case len(l) == 1 && i.Op == api.Push:
		l = []sized{l[0], {}}
	case len(l) == 1:
		l = []sized{{}, l[0]}
	default:
		l = make([]sized, 2)
	}
	i.From, i.To = l[0].o, l[1].o
	for k, x := range l {
		if x.o.Kind == api.Reg && !modelSize(i, k == 0, x) {
			return parse.Stmt{}, api.ErrSyntax
		}
	}
	if forms.Check(i) != api.OK {
		return parse.Stmt{}, api.ErrForm
	}
	return parse.Stmt{Kind: parse.Code, Inst: i}, api.OK
}

// modelSize: as the instruction would be told again, with that register alone.
func modelSize(i api.Inst, from bool, x sized) bool {
	written := forms.Register(x.o.R, x.size)
	switch name := forms.Name(i.Op, i.Size, i.Cond); {
	case from && (strings.HasPrefix(name, "movzb") || strings.HasPrefix(name, "movsb")):
		return x.size == 1
	case from && (strings.HasPrefix(name, "sh") || strings.HasPrefix(name, "sar")):
		return written == "cl"
	case name == "pushq" || name == "popq" || name == "call" || name == "jmp":
		return x.size == 8
	}
	return x.size == i.Size
}

// modelLine: of a statement; "", if it has none.
func modelLine(s parse.Stmt) string {
	arg := append(slices.Clone(s.Args), 0, 0, 0)
	named := func(what string, n int) string {
		for word, x := range modelWords(what) {
			if x == n {
				return word
			}
		}
		return ""
	}
	numbers, values := fmt.Sprint(s.Args), ""
	numbers = strings.Trim(numbers, "[]")
	for _, v := range s.Values {
		values += ", " + expr.Text(v)
	}
	values = strings.TrimPrefix(values, ", ")
	switch s.Kind {
	case parse.Label:
		return s.Name + ":"
	case parse.Code:
		text, _ := forms.Text(s.Inst)
		return text
	case parse.Section:
		flags := ""
		for _, letter := range "awxT" {
			n, _ := modelFlags(string(letter))
			if arg[1]&n != 0 {
				flags += string(letter)
			}
		}
		return fmt.Sprintf(".section %s, \"%s\", @%s", s.Name, flags, named("stype", arg[0]))
	case parse.Data:
		return map[int]string{1: ".byte", 4: ".long", 8: ".quad"}[arg[0]] + " " + values
	case parse.Ascii:
		return ".ascii " + lexer.Quote(s.Text)
	case parse.Align:
		return ".balign " + strings.ReplaceAll(numbers, " ", ", ")
	case parse.Zero:
		return ".zero " + strings.ReplaceAll(numbers, " ", ", ")
	case parse.Bind:
		return map[int]string{0: ".local", 1: ".globl", 2: ".weak"}[arg[0]] + " " + s.Name
	case parse.Type:
		return ".type " + s.Name + ", @" + named("type", arg[0])
	case parse.Size:
		return ".size " + s.Name + ", " + values
	case parse.Set:
		return ".set " + s.Name + ", " + values
	case parse.Cfi:
		return strings.TrimRight(".cfi_"+s.Name+" "+strings.ReplaceAll(numbers, " ", ", "), " ")
	case parse.File:
		return ".file " + numbers + " " + lexer.Quote(s.Text)
	case parse.Loc:
		return ".loc " + numbers
	case parse.Tlsgd:
		return ".tlsgd " + s.Name
	case parse.Tlsld:
		return ".tlsld"
	}
	return ""
}

func modelText(l []parse.Stmt) (string, api.Errno) {
	var text strings.Builder
	for _, s := range l {
		line := modelLine(s)
		back, _, e := modelAll(line)
		if e != api.OK || len(back) != 1 {
			return "", api.ErrSyntax
		}
		back[0].Line = s.Line
		if !sameStmt(back[0], s) {
			return "", api.ErrSyntax
		}
		text.WriteString(line + "\n")
	}
	if text.Len() > 65536 || len(l) > 4000 {
		return "", api.ErrSize
	}
	return text.String(), api.OK
}
