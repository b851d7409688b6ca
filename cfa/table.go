package cfa

import "gangway/api"

// maxKept: how many rows may be kept at once.
const maxKept = 64

// table is one that is built: rows that are done, the one that is being told, and what Restore and Recall go back to.
type table struct {
	size  int
	begun bool // initial is done: first is there
	first Row
	row   Row
	rows  []Row
	kept  []Row
}

func newTable(size int) *table {
	return &table{size: size, row: Row{R: -1}}
}

// built is the whole table of a program.
func built(initial, ops []Op, size int) (*table, api.Errno) {
	if !isSize(size) {
		return nil, api.ErrRange
	}
	if len(initial) > api.MaxRows || len(ops) > api.MaxRows {
		return nil, api.ErrSize
	}
	t := newTable(size)
	if !t.doAll(initial) || !t.begin() || !t.doAll(ops) {
		return nil, api.ErrCfa
	}
	return t, api.OK
}

func (t *table) doAll(l []Op) bool {
	for _, o := range l {
		if !t.do(o) {
			return false
		}
	}
	return true
}

// do answers whether the op may be, and may be where it stands.
func (t *table) do(o Op) bool {
	return mayBe(o) && doer(o.Kind)(t, o)
}

// begin makes what initial told the first row.
func (t *table) begin() bool {
	t.first, t.begun = t.row, true
	return t.hasFrame()
}

// hasFrame: the frame's address is told.
func (t *table) hasFrame() bool { return t.row.R != -1 }

// doer is what an op of a kind does to a table, and whether it may stand there.
func doer(kind int) func(*table, Op) bool {
	return [...]func(*table, Op) bool{
		Nop:         (*table).nop,
		Advance:     (*table).advance,
		DefCfa:      (*table).defCfa,
		DefOffset:   (*table).defOffset,
		DefRegister: (*table).defRegister,
		Offset:      (*table).offset,
		Restore:     (*table).restore,
		Undefined:   (*table).undefined,
		SameValue:   (*table).sameValue,
		Remember:    (*table).remember,
		Recall:      (*table).recall,
	}[kind]
}

func (t *table) nop(Op) bool { return true }

func (t *table) advance(o Op) bool {
	if !t.begun || o.N > t.size-t.row.At {
		return false
	}
	if o.N > 0 {
		t.rows = append(t.rows, t.row)
		t.row.At += o.N
	}
	return true
}

func (t *table) defCfa(o Op) bool {
	t.row.R, t.row.N = o.R, o.N
	return true
}

func (t *table) defOffset(o Op) bool {
	t.row.N = o.N
	return t.hasFrame()
}

func (t *table) defRegister(o Op) bool {
	if !t.hasFrame() {
		return false
	}
	t.row.R = o.R
	return true
}

func (t *table) offset(o Op) bool { return t.rule(o.R, Rule{Kind: Saved, N: o.N}) }

func (t *table) restore(o Op) bool { return t.begun && t.rule(o.R, t.first.Rules[o.R]) }

func (t *table) undefined(o Op) bool { return t.rule(o.R, Rule{Kind: Gone}) }

func (t *table) sameValue(o Op) bool { return t.rule(o.R, Rule{Kind: Same}) }

func (t *table) rule(r int, rule Rule) bool {
	t.row.Rules[r] = rule
	return true
}

func (t *table) remember(Op) bool {
	if !t.begun || len(t.kept) == maxKept {
		return false
	}
	t.kept = append(t.kept, t.row)
	return true
}

func (t *table) recall(Op) bool {
	// In initial nothing is kept, either: no Remember may stand there.
	if len(t.kept) == 0 {
		return false
	}
	last := len(t.kept) - 1
	at := t.row.At
	t.row, t.kept = t.kept[last], t.kept[:last]
	t.row.At = at
	return true
}
