package relax

import (
	"gangway/api"
	"gangway/encode"
)

// none: no label's item.
const none = -1

// piece: an item made ready: what does not change from round to round is found once.
type piece interface {
	write(w *writer) api.Errno
}

// code: an instruction as it is written.
type code struct {
	item  int // where it stands in the list
	b     []byte
	holes []api.Hole
	goal  int  // the Mark that its near operand names, or none
	plus  int  // what its near operand adds to that place
	bound bool // a jump with a Name that the list itself has Short
}

// jump: a free one: Short code, until it does not reach.
type jump struct {
	code
	long   code
	isLong bool
}

func (j *jump) lengthen() { j.code, j.isLong = j.long, true }

// raw: some bytes, mark: a label, align and space: as many bytes fill as they need.
type raw []byte

type mark string

type align struct {
	n    int
	fill byte
}

type space struct {
	n    int
	fill byte
}

// pieceOf makes the k-th item ready.
func pieceOf(k int, i Item, labels map[string]int) piece {
	switch i.Kind {
	case Code:
		return instOf(k, i.Inst, labels)
	case Raw:
		return raw(i.Data)
	case Mark:
		return mark(i.Name)
	case Align:
		return align{i.N, i.Fill}
	default:
		return space{i.N, i.Fill}
	}
}

func instOf(k int, i api.Inst, labels map[string]int) piece {
	c := codeOf(k, i, labels)
	if !isFree(i, c.goal) {
		c.bound = i.Short && i.To.Name != ""
		return &c
	}
	i.Short = true
	return &jump{code: codeOf(k, i, labels), long: c}
}

func isFree(i api.Inst, goal int) bool {
	return (i.Op == api.Jmp || i.Op == api.Jcc) && i.To.Kind == api.Target && !i.Short && goal != none
}

func codeOf(k int, i api.Inst, labels map[string]int) code {
	// It is an instruction: that was looked at ahead of this.
	b, holes, _ := encode.Bytes(i)
	c := code{item: k, b: b, holes: holes, goal: none}
	for _, o := range [...]api.Operand{i.To, i.From} {
		// A Name with the Mod Plain has no instruction but in a Target, or in Mem with Rip.
		if goal, ok := labels[o.Name]; ok && o.Mod == api.Plain {
			c.goal, c.plus = goal, o.N
		}
	}
	return c
}

// room: how many bytes a piece has at a place.
func room(p piece, at int) int {
	switch x := p.(type) {
	case *code:
		return len(x.b)
	case *jump:
		return len(x.b)
	case raw:
		return len(x)
	case align:
		return -at & (x.n - 1)
	case space:
		return x.n
	}
	return 0
}

func isLong(p piece) bool {
	j, ok := p.(*jump)
	return ok && j.isLong
}
