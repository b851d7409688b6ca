package cfa_test

import (
	"math"
	"math/big"
	"math/rand/v2"
	"slices"
	"testing"

	"gangway/api"
	"gangway/cfa"
)

// The model tells of each place of a program by looking back from there: for the op that told a thing last, and at a Recall for the Remember that it belongs to.

// modelMayBe: as the chapter's words go, kind by kind.
func modelMayBe(o cfa.Op) bool {
	isRegister := o.R >= 0 && o.R <= 16
	isUnsigned := o.N >= 0 && o.N < 1<<31
	switch o.Kind {
	case cfa.Nop, cfa.Remember, cfa.Recall:
		return o.R == 0 && o.N == 0
	case cfa.Advance, cfa.DefOffset:
		return o.R == 0 && isUnsigned
	case cfa.DefCfa:
		return isRegister && isUnsigned
	case cfa.Offset:
		return isRegister && o.N >= -(1<<31) && o.N <= 1<<31-8 && o.N&7 == 0
	case cfa.DefRegister, cfa.Restore, cfa.Undefined, cfa.SameValue:
		return isRegister && o.N == 0
	}
	return false
}

// matching is the place of the Remember that the Recall at place k belongs to, or -1.
func matching(l []cfa.Op, k int) int {
	open := 0
	for k--; k >= 0; k-- {
		switch {
		case l[k].Kind == cfa.Recall:
			open++
		case l[k].Kind == cfa.Remember && open == 0:
			return k
		case l[k].Kind == cfa.Remember:
			open--
		}
	}
	return -1
}

// lookBack is the last op that told a thing ahead of place k, or -1: that of initial's end holds.
func lookBack(l []cfa.Op, k int, tells func(cfa.Op) bool) int {
	for k--; k >= 0; k-- {
		if l[k].Kind == cfa.Recall {
			k = matching(l, k)
			continue
		}
		if tells(l[k]) {
			return k
		}
	}
	return -1
}

// modelRow is the row behind all of l, behind the first row base.
func modelRow(l []cfa.Op, base cfa.Row) cfa.Row {
	row := base
	if k := lookBack(l, len(l), func(o cfa.Op) bool { return o.Kind == cfa.DefCfa || o.Kind == cfa.DefRegister }); k >= 0 {
		row.R = l[k].R
	}
	if k := lookBack(l, len(l), func(o cfa.Op) bool { return o.Kind == cfa.DefCfa || o.Kind == cfa.DefOffset }); k >= 0 {
		row.N = l[k].N
	}
	for r := range row.Rules {
		k := lookBack(l, len(l), func(o cfa.Op) bool {
			return o.R == r && slices.Contains([]int{cfa.Offset, cfa.Restore, cfa.Undefined, cfa.SameValue}, o.Kind)
		})
		if k < 0 {
			continue
		}
		switch l[k].Kind {
		case cfa.Offset:
			row.Rules[r] = cfa.Rule{Kind: cfa.Saved, N: l[k].N}
		case cfa.Undefined:
			row.Rules[r] = cfa.Rule{Kind: cfa.Gone}
		case cfa.SameValue:
			row.Rules[r] = cfa.Rule{Kind: cfa.Same}
		case cfa.Restore:
			row.Rules[r] = base.Rules[r]
		}
	}
	for _, o := range l {
		if o.Kind == cfa.Advance {
			row.At += o.N
		}
	}
	return row
}

// modelTable: the rows, whatever how many ops there are, and whether there is a table.
func modelTable(initial, l []cfa.Op, size int) ([]cfa.Row, bool) {
	told := false
	for _, o := range initial {
		told = told || o.Kind == cfa.DefCfa
		switch {
		case !modelMayBe(o):
			return nil, false
		case slices.Contains([]int{cfa.Advance, cfa.Remember, cfa.Recall, cfa.Restore}, o.Kind):
			return nil, false
		case !told && (o.Kind == cfa.DefOffset || o.Kind == cfa.DefRegister):
			return nil, false
		}
	}
	if !told {
		return nil, false
	}
	base := modelRow(initial, cfa.Row{})
	place, kept := 0, 0
	var rows []cfa.Row
	for k, o := range l {
		if !modelMayBe(o) {
			return nil, false
		}
		switch o.Kind {
		case cfa.Remember:
			kept++
		case cfa.Recall:
			kept--
		case cfa.Advance:
			place += o.N
			if o.N > 0 {
				rows = append(rows, modelRow(l[:k], base))
			}
		}
		if kept < 0 || kept > 64 || place > size {
			return nil, false
		}
	}
	return append(rows, modelRow(l, base)), true
}

func modelRows(initial, l []cfa.Op, size int) ([]cfa.Row, api.Errno) {
	if size < 0 || size > 1<<20 {
		return nil, api.ErrRange
	}
	if len(initial) > 4000 || len(l) > 4000 {
		return nil, api.ErrSize
	}
	rows, ok := modelTable(initial, l, size)
	if !ok {
		return nil, api.ErrCfa
	}
	return rows, api.OK
}

// modelOf: of an event the op's kind, and which of its Args are R and N (-1: none), and how often the frame's N is added to N.
func modelOf(name string) (kind, count, r, n, times int) {
	switch name {
	case "def_cfa":
		return cfa.DefCfa, 2, 0, 1, 0
	case "def_cfa_offset":
		return cfa.DefOffset, 1, -1, 0, 0
	case "def_cfa_register":
		return cfa.DefRegister, 1, 0, -1, 0
	case "offset":
		return cfa.Offset, 2, 0, 1, 0
	case "rel_offset":
		return cfa.Offset, 2, 0, 1, -1
	case "adjust_cfa_offset":
		return cfa.DefOffset, 1, -1, 0, 1
	case "restore":
		return cfa.Restore, 1, 0, -1, 0
	case "undefined":
		return cfa.Undefined, 1, 0, -1, 0
	case "same_value":
		return cfa.SameValue, 1, 0, -1, 0
	case "remember_state":
		return cfa.Remember, 0, -1, -1, 0
	case "restore_state":
		return cfa.Recall, 0, -1, -1, 0
	}
	return 0, -1, 0, 0, 0
}

func modelCompile(l []cfa.Event, size int) ([]cfa.Op, api.Errno) {
	if size < 0 || size > 1<<20 {
		return nil, api.ErrRange
	}
	if len(l) > 4000 {
		return nil, api.ErrSize
	}
	var out []cfa.Op
	place := 0
	for _, v := range l {
		kind, count, r, n, times := modelOf(v.Name)
		if count != len(v.Args) || v.At < place || v.At > size {
			return nil, api.ErrCfa
		}
		if v.At != place {
			out = append(out, cfa.Op{Kind: cfa.Advance, N: v.At - place})
			place = v.At
		}
		o := cfa.Op{Kind: kind}
		if r >= 0 {
			o.R = v.Args[r]
		}
		if n >= 0 {
			rows, ok := modelTable(cfa.Usual(), out, size)
			if !ok {
				return nil, api.ErrCfa
			}
			sum := big.NewInt(int64(rows[len(rows)-1].N * times))
			sum.Add(sum, big.NewInt(int64(v.Args[n])))
			if !sum.IsInt64() {
				return nil, api.ErrCfa
			}
			o.N = int(sum.Int64())
		}
		out = append(out, o)
	}
	if _, ok := modelTable(cfa.Usual(), out, size); !ok {
		return nil, api.ErrCfa
	}
	if len(out) > 4000 {
		return nil, api.ErrSize
	}
	return out, api.OK
}

// groups takes a number in groups of seven bits off b, up to ten; signed, by its last byte's bit 6.
func groups(b []byte, signed bool) (n *big.Int, rest []byte, ok bool) {
	n = new(big.Int)
	for k := 0; k < 10 && k < len(b); k++ {
		n.Add(n, new(big.Int).Lsh(big.NewInt(int64(b[k]&127)), uint(7*k)))
		if b[k] >= 128 {
			continue
		}
		if signed && b[k] >= 64 {
			n.Sub(n, new(big.Int).Lsh(big.NewInt(1), uint(7*k+7)))
		}
		fits := n.IsInt64() || !signed && n.IsUint64()
		return n, b[k+1:], fits
	}
	return nil, nil, false
}

// fields: of a first byte the op, and what stands behind it: 1, 2, 4: N of so many bytes; r: R, n: N, u: Ns in eighths, s: these with a sign.
func fields(first byte) (o cfa.Op, behind string, ok bool) {
	low := int(first & 63)
	switch first >> 6 {
	case 1:
		return cfa.Op{Kind: cfa.Advance, N: low}, "", true
	case 2:
		return cfa.Op{Kind: cfa.Offset, R: low}, "u", true
	case 3:
		return cfa.Op{Kind: cfa.Restore, R: low}, "", true
	}
	kinds := []int{0, -1, 1, 1, 1, 5, 6, 7, 8, -1, 9, 10, 2, 4, 3, -1, -1, 5}
	behinds := []string{"", "", "1", "2", "4", "ru", "r", "r", "r", "", "", "", "rn", "r", "n", "", "", "rs"}
	if low >= len(kinds) || kinds[low] < 0 {
		return cfa.Op{}, "", false
	}
	return cfa.Op{Kind: kinds[low]}, behinds[low], true
}

// modelOp takes an op off b.
func modelOp(b []byte) (o cfa.Op, rest []byte, ok bool) {
	o, behind, ok := fields(b[0])
	if !ok {
		return cfa.Op{}, nil, false
	}
	b = b[1:]
	for _, what := range behind {
		if count := int(what - '0'); count < 10 {
			if len(b) < count {
				return cfa.Op{}, nil, false
			}
			for k := range count {
				o.N += int(b[k]) << (8 * k)
			}
			b = b[count:]
			continue
		}
		n, rest, ok := groups(b, what == 's')
		if !ok {
			return cfa.Op{}, nil, false
		}
		if what == 'u' || what == 's' {
			n.Mul(n, big.NewInt(-8))
		}
		// None is near so great a number: it stands for all that are not an int.
		value := math.MaxInt
		if n.IsInt64() {
			value = int(n.Int64())
		}
		if what == 'r' {
			o.R = value
		} else {
			o.N = value
		}
		b = rest
	}
	return o, b, modelMayBe(o)
}

func modelRead(b []byte) ([]cfa.Op, api.Errno) {
	if len(b) > 1<<20 {
		return nil, api.ErrSize
	}
	var l []cfa.Op
	for len(b) > 0 {
		o, rest, ok := modelOp(b)
		if !ok {
			return nil, api.ErrCfa
		}
		if len(l) == 4000 {
			return nil, api.ErrSize
		}
		l, b = append(l, o), rest
	}
	return l, api.OK
}

// wildNumbers: those that ops have, their edges, and others.
func wildNumbers() []int {
	return []int{0, 0, 0, 1, 2, 3, 6, 7, 8, 8, 16, 16, 17, 24, -1, -8, -8, -16, -24, 63, 64, 255, 256, most, most + 1, most - 7, least, least - 8, math.MaxInt, math.MinInt}
}

// wildProgram: mostly ops that may be where they stand.
func wildProgram(random *rand.Rand, n, size int) []cfa.Op {
	var l []cfa.Op
	for range n {
		r := pick(random, []int{0, 3, 6, 7, 16})
		switch random.IntN(12) {
		case 0:
			l = append(l, nop())
		case 1:
			l = append(l, advance(random.IntN(size/8+2)))
		case 2:
			l = append(l, defCfa(r, random.IntN(100)))
		case 3:
			l = append(l, defOffset(random.IntN(100)))
		case 4:
			l = append(l, defRegister(r))
		case 5, 6:
			l = append(l, offset(r, 8*random.IntN(20)-80))
		case 7:
			l = append(l, restore(r))
		case 8:
			l = append(l, undefined(r))
		case 9:
			l = append(l, sameValue(r))
		case 10:
			l = append(l, remember())
		case 11:
			if open(l) > 0 || random.IntN(20) == 0 {
				l = append(l, recall())
			}
		}
	}
	return l
}

func open(l []cfa.Op) int {
	n := 0
	for _, o := range l {
		switch o.Kind {
		case cfa.Remember:
			n++
		case cfa.Recall:
			n--
		}
	}
	return n
}

// wildOp: any at all.
func wildOp(random *rand.Rand) cfa.Op {
	numbers := wildNumbers()
	return cfa.Op{Kind: random.IntN(13) - 1, R: pick(random, numbers), N: pick(random, numbers)}
}

func checkRowsByModel(t *testing.T, initial, l []cfa.Op, size int) {
	t.Helper()
	want, e := modelRows(initial, l, size)
	checkRows(t, initial, l, size, want, e)
}

// TestP1302AgainstTheModel: programs that mostly may be, with a wild op here and there.
func TestP1302AgainstTheModel(t *testing.T) {
	random := seeded(2)
	taken := 0
	for range 20000 {
		size := random.IntN(40)
		initial, l := cfa.Usual(), wildProgram(random, random.IntN(14), size)
		if random.IntN(3) == 0 {
			initial = slices.DeleteFunc(wildProgram(random, random.IntN(8), size), func(o cfa.Op) bool {
				return o.Kind == cfa.Restore && random.IntN(8) > 0 || o.Kind == cfa.Advance && random.IntN(8) > 0 || o.Kind >= cfa.Remember
			})
		}
		if random.IntN(6) == 0 && len(l) > 0 {
			l[random.IntN(len(l))] = wildOp(random)
		}
		if random.IntN(8) == 0 {
			initial = slices.Insert(initial, random.IntN(len(initial)+1), wildOp(random))
		}
		checkRowsByModel(t, initial, l, size)
		if _, e := modelRows(initial, l, size); e == api.OK {
			taken++
		}
	}
	if taken < 5000 {
		t.Error("too few that may be", taken)
	}
}

// TestP1302EachPairAgainstTheModel: each op behind each other one.
func TestP1302EachPairAgainstTheModel(t *testing.T) {
	l := ops(nop(), advance(0), advance(1), defCfa(6, 16), defOffset(24), defRegister(3), offset(3, -16), offset(16, 8), restore(3), restore(16), undefined(3), undefined(16), sameValue(3), sameValue(16), remember(), recall(), cfa.Op{Kind: 11}, offset(3, 4), restore(17))
	for _, a := range l {
		for _, b := range l {
			for _, c := range l {
				checkRowsByModel(t, cfa.Usual(), ops(a, b, c), 2)
				checkRowsByModel(t, ops(a, b), ops(c), 2)
				checkRowsByModel(t, ops(a, b, c), nil, 2)
			}
		}
	}
}

func wildEvents(random *rand.Rand, n, size int) []cfa.Event {
	names := []string{"def_cfa", "def_cfa_offset", "def_cfa_register", "offset", "rel_offset", "rel_offset", "adjust_cfa_offset", "adjust_cfa_offset", "restore", "undefined", "same_value", "remember_state", "restore_state"}
	var l []cfa.Event
	place, kept := 0, 0
	for range n {
		place += random.IntN(3) * random.IntN(3)
		if random.IntN(3) > 0 {
			place = min(place, size)
		}
		name := pick(random, names)
		if name == "restore_state" && kept == 0 && random.IntN(10) > 0 {
			continue
		}
		_, count, r, _, _ := modelOf(name)
		args := make([]int, count)
		for k := range args {
			args[k] = 8 * random.IntN(5)
			if random.IntN(60) == 0 {
				args[k] = pick(random, wildNumbers())
			}
		}
		if r == 0 {
			args[0] = random.IntN(17)
		}
		switch name {
		case "remember_state":
			kept++
		case "restore_state":
			kept--
		}
		l = append(l, event(place, name, args...))
	}
	if random.IntN(20) == 0 && len(l) > 0 {
		v := &l[random.IntN(len(l))]
		*v = event(v.At+random.IntN(5)-2, pick(random, append(names, "foo", "")), v.Args...)
	}
	return l
}

// TestP1305AgainstTheModel: events that mostly may be.
func TestP1305AgainstTheModel(t *testing.T) {
	random := seeded(3)
	taken := 0
	for range 10000 {
		size := random.IntN(30)
		l := wildEvents(random, random.IntN(10), size)
		want, e := modelCompile(l, size)
		checkCompile(t, l, size, want, e)
		if e == api.OK && len(l) > 0 {
			taken++
			checkTaken(t, cfa.Usual(), want, size)
		}
	}
	if taken < 2500 {
		t.Error("too few that may be", taken)
	}
}

func checkReadByModel(t *testing.T, b []byte) {
	t.Helper()
	want, e := modelRead(b)
	checkRead(t, b, want, e)
}

// TestP1307AgainstTheModel: all first bytes with a few behind, and bytes by chance.
func TestP1307AgainstTheModel(t *testing.T) {
	few := []byte{0, 1, 3, 8, 16, 17, 63, 64, 127, 128, 129, 191, 255}
	for first := range 256 {
		checkReadByModel(t, []byte{byte(first)})
		for second := range 256 {
			checkReadByModel(t, []byte{byte(first), byte(second)})
		}
		for _, b := range few {
			for _, c := range few {
				for _, d := range few {
					checkReadByModel(t, []byte{byte(first), b, c, d})
				}
			}
		}
	}
	random := seeded(4)
	for range 60000 {
		b := make([]byte, random.IntN(40))
		for k := range b {
			switch random.IntN(4) {
			case 0:
				b[k] = pick(random, []byte{2, 3, 4, 5, 6, 7, 8, 10, 11, 12, 13, 14, 17, 65, 131, 195})
			case 1:
				b[k] = pick(random, []byte{0, 1, 7, 127, 128, 255})
			case 2:
				b[k] = 128
			default:
				b[k] = byte(random.IntN(256))
			}
		}
		checkReadByModel(t, b)
	}
}

// TestP1307LongNumbers: numbers of up to eleven bytes, in each form that has some.
func TestP1307LongNumbers(t *testing.T) {
	random := seeded(5)
	for range 60000 {
		b := []byte{pick(random, []byte{5, 6, 7, 8, 12, 13, 14, 17, 128, 131, 144})}
		for range 2 {
			fill := pick(random, []byte{128, 255, 129})
			for range random.IntN(12) {
				b = append(b, fill)
			}
			b = append(b, pick(random, []byte{0, 1, 2, 7, 8, 16, 63, 64, 126, 127}))
		}
		checkReadByModel(t, b)
	}
}
