package object

import (
	"gangway/api"
	"gangway/expr"
	"gangway/parse"
	"gangway/relax"
)

// maxFile: the greatest number of a file.
const maxFile = 255

// textName: of the section that is chosen at first.
const textName = ".text"

// source: what its statements have told so far.
type source struct {
	sections   []*section          // those that are there, in order
	named      map[string]*section // and .text, that need not be there
	chosen     *section
	labels     []label
	numbers    map[string]int // of labels, by their names
	told       map[string]*told
	binds      []string // names of which a binding was told, as often as it was
	files      [maxFile + 1]string
	isLined    bool // there is a Loc
	procedures []*procedure
	open       *procedure // the one that has not ended
}

type label struct {
	name string
	spot
}

// told: of a name's symbol, wherever it may be.
type told struct {
	bind, kind       int
	isBound, isTyped bool
	size             expr.Value
}

// loc: the line of what stands from there on.
type loc struct {
	spot
	file, line, column int
}

// procedure: from its beginning to its end, and what is told in between.
type procedure struct {
	begin, end spot
	line       int
	events     []event
}

type event struct {
	spot
	name string
	args []int
}

func newSource() *source {
	text := &section{name: textName, kind: api.ProgBits, flags: api.Alloc | api.Exec}
	return &source{
		named:   map[string]*section{textName: text},
		chosen:  text,
		numbers: map[string]int{},
		told:    map[string]*told{},
	}
}

// read does all statements of a text, or answers the line of the first one that may not be.
func read(text string) (x *source, line int, e api.Errno) {
	l, line, e := parse.All(text)
	if e != api.OK {
		return nil, line, e
	}
	x = newSource()
	for _, s := range l {
		if e := x.do(s); e != api.OK {
			return nil, s.Line, e
		}
	}
	if x.open != nil {
		return nil, x.open.line, api.ErrCfa
	}
	// A procedure or a Loc puts nothing into .text, but its place must be in some section.
	if text := x.named[textName]; text.isNamed() {
		x.enter(text)
	}
	return x, 0, api.OK
}

func (x *source) do(s parse.Stmt) api.Errno {
	if e := doer(s.Kind)(x, s); e != api.OK {
		return e
	}
	if x.chosen.kind == api.NoBits && !isWithoutBytes(s) {
		return api.ErrType
	}
	return api.OK
}

// isWithoutBytes: whether it may stand where there is room alone.
func isWithoutBytes(s parse.Stmt) bool {
	switch s.Kind {
	case parse.Code, parse.Ascii, parse.Tlsgd, parse.Tlsld:
		return false
	case parse.Align, parse.Zero:
		return s.Args[1] == 0
	case parse.Data:
		for _, v := range s.Values {
			if v != (expr.Value{}) {
				return false
			}
		}
	}
	return true
}

// enter: a section is there from now on.
func (x *source) enter(s *section) {
	if !s.there {
		s.there = true
		x.sections = append(x.sections, s)
	}
}

func (x *source) put(i relax.Item) {
	x.enter(x.chosen)
	x.chosen.put(i)
}

func (x *source) tell(name string) *told {
	t, ok := x.told[name]
	if !ok {
		t = &told{}
		x.told[name] = t
	}
	return t
}

// labelOf: false, if no label has that name.
func (x *source) labelOf(name string) (label, bool) {
	k, ok := x.numbers[name]
	if !ok {
		return label{}, false
	}
	return x.labels[k], true
}

// between: whether both names are labels of one section, and then how far the first one is behind the second one.
func (x *source) between(plus, minus string) (n int, ok bool) {
	a, isA := x.labelOf(plus)
	b, isB := x.labelOf(minus)
	if !isA || !isB || a.in != b.in {
		return 0, false
	}
	return a.at() - b.at(), true
}
