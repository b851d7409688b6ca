package cfa

// compiler makes events ops. It builds their table on the way: that knows the frame's N at each place, and what may not stand there.
type compiler struct {
	table *table
	at    int // of the last event
	ops   []Op
}

func newCompiler(size int) *compiler {
	t := newTable(size)
	t.doAll(Usual())
	t.begin()
	return &compiler{table: t}
}

// event answers whether it may be, there.
func (c *compiler) event(v Event) bool {
	// One above size is refused with the Advance that would lead there.
	if v.At < c.at {
		return false
	}
	o, ok := opOf(v, c.table.row.N)
	if !ok {
		return false
	}
	if v.At > c.at && !c.op(Op{Kind: Advance, N: v.At - c.at}) {
		return false
	}
	c.at = v.At
	return c.op(o)
}

func (c *compiler) op(o Op) bool {
	c.ops = append(c.ops, o)
	return c.table.do(o)
}

// opOf is the op of an event where the frame's N is n.
func opOf(v Event, n int) (Op, bool) {
	switch v.Name {
	case "def_cfa":
		return withBoth(DefCfa, v.Args)
	case "def_cfa_offset":
		return withN(DefOffset, v.Args)
	case "def_cfa_register":
		return withR(DefRegister, v.Args)
	case "offset":
		return withBoth(Offset, v.Args)
	case "rel_offset":
		o, ok := withBoth(Offset, v.Args)
		return farther(o, -n), ok
	case "adjust_cfa_offset":
		o, ok := withN(DefOffset, v.Args)
		return farther(o, n), ok
	case "restore":
		return withR(Restore, v.Args)
	case "undefined":
		return withR(Undefined, v.Args)
	case "same_value":
		return withR(SameValue, v.Args)
	case "remember_state":
		return Op{Kind: Remember}, len(v.Args) == 0
	case "restore_state":
		return Op{Kind: Recall}, len(v.Args) == 0
	}
	return Op{}, false
}

func withBoth(kind int, args []int) (Op, bool) {
	if len(args) != 2 {
		return Op{}, false
	}
	return Op{Kind: kind, R: args[0], N: args[1]}, true
}

func withN(kind int, args []int) (Op, bool) {
	if len(args) != 1 {
		return Op{}, false
	}
	return Op{Kind: kind, N: args[0]}, true
}

func withR(kind int, args []int) (Op, bool) {
	if len(args) != 1 {
		return Op{}, false
	}
	return Op{Kind: kind, R: args[0]}, true
}

// farther is the op with its N more by n. A sum that wraps round is one that no op has: n is at most 2^31 - 1 away from 0.
func farther(o Op, n int) Op {
	o.N += n
	return o
}
