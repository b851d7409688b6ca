package relax_test

import (
	"bytes"
	"math/rand/v2"
	"slices"
	"strconv"
	"strings"
	"testing"

	"gangway/api"
	"gangway/encode"
	"gangway/parse"
	"gangway/relax"
)

const mostItems = 20000

func seeded(n uint64) *rand.Rand { return rand.New(rand.NewPCG(16, n)) }

func pick[T any](random *rand.Rand, l []T) T { return l[random.IntN(len(l))] }

func code(i api.Inst) relax.Item { return relax.Item{Kind: relax.Code, Inst: i} }

func raw(b ...byte) relax.Item { return relax.Item{Kind: relax.Raw, Data: b} }

func mark(name string) relax.Item { return relax.Item{Kind: relax.Mark, Name: name} }

func alignTo(n int, fill byte) relax.Item { return relax.Item{Kind: relax.Align, N: n, Fill: fill} }

func space(n int, fill byte) relax.Item { return relax.Item{Kind: relax.Space, N: n, Fill: fill} }

// items are those of lines of assembly: .ascii is Raw, .balign Align, .zero Space.
func items(text string) []relax.Item {
	stmts, line, e := parse.All(text)
	if e != api.OK {
		panic([]any{"no items", text, line, e})
	}
	var l []relax.Item
	for _, s := range stmts {
		switch s.Kind {
		case parse.Label:
			l = append(l, mark(s.Name))
		case parse.Code:
			l = append(l, code(s.Inst))
		case parse.Ascii:
			l = append(l, raw([]byte(s.Text)...))
		case parse.Align:
			l = append(l, alignTo(s.Args[0], byte(s.Args[1])))
		case parse.Zero:
			l = append(l, space(s.Args[0], byte(s.Args[1])))
		default:
			panic([]any{"no item", text, s})
		}
	}
	return l
}

// inst is one line's.
func inst(text string) api.Inst { return items(text)[0].Inst }

func jmp(name string) relax.Item { return code(inst("jmp " + name)) }

// clone shares nothing with l.
func clone(l []relax.Item) []relax.Item {
	l = slices.Clone(l)
	for k := range l {
		l[k].Data = slices.Clone(l[k].Data)
	}
	return l
}

func sameItem(x, y relax.Item) bool {
	return x.Kind == y.Kind && x.Inst == y.Inst && bytes.Equal(x.Data, y.Data) && x.Name == y.Name && x.N == y.N && x.Fill == y.Fill
}

// shown is as much of a long list as can be read.
func shown[T any](l []T) []T { return l[:min(len(l), 40)] }

func sameLaid(x, y relax.Laid) bool {
	return slices.Equal(x.At, y.At) && slices.Equal(x.Long, y.Long) && x.Size == y.Size && x.Rounds == y.Rounds
}

func checkCheck(t *testing.T, l []relax.Item, wantE api.Errno) {
	t.Helper()
	if e := relax.Check(l); e != wantE {
		t.Errorf("Check of %d items %v: %d; want %d", len(l), shown(l), e, wantE)
	}
}

func checkLayout(t *testing.T, l []relax.Item, want relax.Laid, wantE api.Errno) {
	t.Helper()
	if x, e := relax.Layout(l); e != wantE || !sameLaid(x, want) {
		t.Errorf("Layout of %d items %v: %v %v %d %d, %d; want %v %v %d %d, %d", len(l), shown(l), shown(x.At), shown(x.Long), x.Size, x.Rounds, e, shown(want.At), shown(want.Long), want.Size, want.Rounds, wantE)
	}
}

// checkLong: which items are long jumps, how many bytes there are, how many rounds there were.
func checkLong(t *testing.T, l []relax.Item, size, rounds int, long ...int) {
	t.Helper()
	x, e := relax.Layout(l)
	var got []int
	for k, is := range x.Long {
		if is {
			got = append(got, k)
		}
	}
	if e != api.OK || x.Size != size || x.Rounds != rounds || !slices.Equal(got, long) || len(x.At) != len(l) || len(x.Long) != len(l) {
		t.Errorf("Layout of %d items %v: %d bytes, %d rounds, long %v, %d; want %d, %d, %v", len(l), shown(l), x.Size, x.Rounds, shown(got), e, size, rounds, shown(long))
	}
	if b, _, _, e := relax.Bytes(l); e != api.OK || len(b) != size {
		t.Errorf("Bytes of %d items %v: %d bytes, %d; want %d", len(l), shown(l), len(b), e, size)
	}
}

func checkAll(t *testing.T, l []relax.Item, want []byte, wantRelocs []api.Reloc, wantLabels []relax.Label, wantE api.Errno) {
	t.Helper()
	b, relocs, labels, e := relax.Bytes(l)
	if e != wantE || !bytes.Equal(b, want) || !slices.Equal(relocs, wantRelocs) || !slices.Equal(labels, wantLabels) {
		t.Errorf("Bytes of %d items %v: %d bytes %s, %v, %v, %d; want %d bytes %s, %v, %v, %d", len(l), shown(l), len(b), encode.Text(shown(b)), shown(relocs), shown(labels), e, len(want), encode.Text(shown(want)), shown(wantRelocs), shown(wantLabels), wantE)
	}
}

// checkBytes: of lines of assembly, as digits.
func checkBytes(t *testing.T, text, want string, relocs ...api.Reloc) {
	t.Helper()
	l := items(text)
	b, got, _, e := relax.Bytes(l)
	if s := encode.Text(b); e != api.OK || s != want || !slices.Equal(got, relocs) {
		t.Errorf("Bytes of %s: %s, %v, %d; want %s, %v", text, s, got, e, want, relocs)
	}
}

// checkUnwritten: there are no bytes, for that error.
func checkUnwritten(t *testing.T, l []relax.Item, wantE api.Errno) {
	t.Helper()
	checkAll(t, l, nil, nil, nil, wantE)
}

// checkUnlaid: there are neither places nor bytes, for that error.
func checkUnlaid(t *testing.T, l []relax.Item, wantE api.Errno) {
	t.Helper()
	checkLayout(t, l, relax.Laid{}, wantE)
	checkUnwritten(t, l, wantE)
}

// checkWrong: and Check says so, too.
func checkWrong(t *testing.T, l []relax.Item, wantE api.Errno) {
	t.Helper()
	checkCheck(t, l, wantE)
	checkUnlaid(t, l, wantE)
}

// checkModel: all calls against the model.
func checkModel(t *testing.T, l []relax.Item) {
	t.Helper()
	checkCheck(t, l, modelCheck(l))
	x, e := modelLayout(l)
	checkLayout(t, l, x, e)
	b, relocs, labels, e := modelBytes(l)
	checkAll(t, l, b, relocs, labels, e)
}

func zeros(n int) string { return strings.TrimSuffix(strings.Repeat("00 ", n), " ") }

// chain is jumps of which one more does not reach, the last one first, in each round but the last.
func chain(n int) []relax.Item {
	var l []relax.Item
	for k := range n {
		l = append(l, jmp(labelName(k)))
		if k > 0 {
			l = append(l, mark(labelName(k-1)))
		}
		l = append(l, space(125, 0))
	}
	if n > 0 {
		l = append(l, space(3, 0), mark(labelName(n-1)))
	}
	return l
}

func labelName(k int) string { return "l" + strconv.Itoa(k) }
