package relax_test

import (
	"bytes"
	"math"
	"math/rand/v2"
	"slices"
	"strings"
	"testing"

	"gangway/api"
	"gangway/relax"
)

func wildNumbers() []int {
	return []int{math.MinInt, math.MinInt + 1, -1 << 32, -1<<31 - 1, -1 << 31, -4096, -129, -128, -1, 0, 1, 2, 3, 4, 5, 6, 8, 15, 16, 23, 24, 64, 127, 128, 255, 4096, 4097, api.MaxBytes, api.MaxBytes + 1, 1<<31 - 1, 1 << 31, 1 << 32, math.MaxInt - 1, math.MaxInt}
}

func wildName(random *rand.Rand) string {
	return pick(random, []string{"", "", "a", "b", "c", "\x00", "(", "\xff\xfe", strings.Repeat("n", 300)})
}

func wildOperand(random *rand.Rand) api.Operand {
	wild := func() int { return pick(random, wildNumbers()) }
	o := api.Operand{Kind: random.IntN(7) - 1, N: wild(), Name: wildName(random)}
	switch random.IntN(4) {
	case 0:
		o.R, o.Base, o.Index, o.Scale, o.Mod = wild(), wild(), wild(), wild(), wild()
	case 1:
		o.Base, o.Index, o.Rip = -1, -1, true
	case 2:
		o.N = 0
	}
	return o
}

// wildItem is mostly one that may not be.
func wildItem(random *rand.Rand) relax.Item {
	wild := func() int { return pick(random, wildNumbers()) }
	i := relax.Item{Kind: random.IntN(7)}
	switch random.IntN(6) {
	case 0:
		i.N, i.Fill = wild(), byte(random.Uint32())
	case 1:
		i.Data = make([]byte, random.IntN(9))
	case 2:
		i.Kind, i.Inst = relax.Code, api.Inst{Op: random.IntN(api.LastOp + 3), Size: pick(random, []int{0, 1, 4, 8, wild()}), To: wildOperand(random), From: wildOperand(random)}
	case 3:
		i.Kind, i.Inst = relax.Code, api.Inst{Op: pick(random, []int{api.Jmp, api.Jcc, api.Call}), Size: 8, Cond: random.IntN(18) - 1, To: wildOperand(random), Short: random.IntN(2) == 0}
	case 4:
		i.Kind, i.Name = relax.Mark, wildName(random)
	case 5:
		i.Kind, i.Name, i.N = wild(), wildName(random), random.IntN(3)
	}
	return i
}

// TestP1NothingPanics: items of all sorts, some among ones that may be; with an error nothing else is answered.
func TestP1NothingPanics(t *testing.T) {
	random := seeded(11)
	for range 60000 {
		var l []relax.Item
		for range random.IntN(4) {
			l = append(l, wildItem(random))
		}
		checkModel(t, l)
	}
	for range 2000 {
		l := anyTight(random, 8, true)
		checkModel(t, slices.Insert(l, random.IntN(len(l)+1), wildItem(random)))
	}
}

// dense is jumps without anything between, of which one more does not reach in each round.
func dense(n int) []relax.Item {
	const over = 26 // so many that are long take a jump over them out of reach
	var l []relax.Item
	for k := range n {
		if k > over {
			l = append(l, mark(labelName(k)))
		}
		to := labelName(k + over + 1)
		if k >= n-over {
			to = "far"
		}
		l = append(l, jmp(to))
	}
	return append(l, mark(labelName(n)), space(200, 0), mark("far"))
}

// TestP1MuchEnds: lists far beyond the limits, and as much work as may be asked for within them.
func TestP1MuchEnds(t *testing.T) {
	const many = 1 << 21
	checkWrong(t, make([]relax.Item, many), api.ErrSize)
	checkWrong(t, slices.Repeat(good(), many/8), api.ErrSize)
	checkUnlaid(t, []relax.Item{raw(make([]byte, 1<<26)...)}, api.ErrSize)
	long := make([]byte, api.MaxBytes)
	checkUnlaid(t, slices.Repeat([]relax.Item{raw(long...)}, mostItems), api.ErrSize)
	checkUnlaid(t, slices.Repeat([]relax.Item{space(api.MaxBytes, 1), alignTo(4096, 0)}, mostItems/2), api.ErrSize)
	name := strings.Repeat("n", 1<<24)
	checkWrong(t, []relax.Item{mark(name), mark(name)}, api.ErrLabel)
	checkAll(t, []relax.Item{mark(name)}, nil, nil, []relax.Label{{Name: name}}, api.OK)
	for _, c := range []struct {
		l      []relax.Item
		rounds int
	}{{chain(6666), 6667}, {dense(10011), 9987}} {
		x, e := relax.Layout(c.l)
		b, _, labels, eb := relax.Bytes(c.l)
		if len(c.l) < mostItems-2 || e != api.OK || x.Rounds != c.rounds || eb != api.OK || len(b) != x.Size {
			t.Error(len(c.l), x.Rounds, x.Size, e, len(b), len(labels), eb)
		}
	}
	// As many names for the linker as there may be items.
	l := slices.Repeat(items("call f"), mostItems)
	if _, relocs, _, e := relax.Bytes(l); e != api.OK || len(relocs) != mostItems || relocs[mostItems-1].At != 5*mostItems-4 {
		t.Error(len(relocs), e)
	}
}

// TestP1NilAndEmpty: they mean the same.
func TestP1NilAndEmpty(t *testing.T) {
	for _, l := range [][]relax.Item{nil, {}} {
		checkCheck(t, l, api.OK)
		checkLayout(t, l, relax.Laid{Rounds: 1}, api.OK)
		checkAll(t, l, nil, nil, nil, api.OK)
	}
	for _, data := range [][]byte{nil, {}} {
		l := good()
		for k := range l {
			if l[k].Kind != relax.Raw {
				l[k].Data = data
			}
		}
		l = append(l, relax.Item{Kind: relax.Raw, Data: data})
		checkModel(t, l)
		checkCheck(t, l, api.OK)
	}
}

// sample has an item of each kind, names for the linker, and jumps of both lengths.
func sample() []relax.Item {
	return append(items("call f; jmp b; jmp a; leaq a(%rip), %rax; .zero 128, 3; b: .balign 16, 204; jne a; call g; nop"), good()...)
}

// withRoom is the list with room behind it, filled with rest.
func withRoom[T any](l []T, rest T) []T {
	long := append(slices.Clone(l), slices.Repeat([]T{rest}, 64)...)
	return long[:len(l)]
}

// roomOf is what stands behind.
func roomOf[T any](l []T) []T { return l[:len(l)+64][len(l):] }

// TestP1ArgumentsStay: what is handed in is not changed, nor the room behind it, and that room is not read.
func TestP1ArgumentsStay(t *testing.T) {
	data := withRoom([]byte{1, 2}, 77)
	l := sample()
	for k := range l {
		if l[k].Kind == relax.Raw {
			l[k].Data = data
		}
	}
	l = withRoom(l, relax.Item{Kind: 99, Name: "no"})
	kept := clone(l)
	checkModel(t, l)
	checkWrong(t, l[:len(l)+1], api.ErrArg)
	if !slices.EqualFunc(l, kept, sameItem) || !bytes.Equal(roomOf(data), bytes.Repeat([]byte{77}, 64)) {
		t.Error(l, data)
	}
	for _, i := range roomOf(l) {
		if !sameItem(i, relax.Item{Kind: 99, Name: "no"}) {
			t.Fatal("the room behind has changed")
		}
	}
}

// spoil writes over a list and the room behind it.
func spoil[T any](l []T) {
	clear(l[:cap(l)])
}

// TestP1AnswersAreNew: what is done to an answer, and to the room behind it, is not seen in another one, nor in what was handed in.
func TestP1AnswersAreNew(t *testing.T) {
	for _, l := range [][]relax.Item{sample(), {raw(1, 2, 3)}, {code(inst("nop"))}, {code(inst("call f"))}} {
		kept := clone(l)
		want, wantRelocs, wantLabels, _ := modelBytes(kept)
		wantLaid, _ := modelLayout(kept)
		b, relocs, labels := written(t, l)
		b2, relocs2, labels2 := written(t, l)
		x, x2 := laid(t, l), laid(t, l)
		spoil(b)
		spoil(x.At)
		if !slices.Equal(relocs, wantRelocs) || !slices.Equal(labels, wantLabels) || !slices.Equal(x.Long, wantLaid.Long) {
			t.Error(relocs, labels, x)
		}
		spoil(relocs)
		spoil(labels)
		spoil(x.Long)
		if !bytes.Equal(b2, want) || !slices.Equal(relocs2, wantRelocs) || !slices.Equal(labels2, wantLabels) || !sameLaid(x2, wantLaid) || !slices.EqualFunc(l, kept, sameItem) {
			t.Error(b2, relocs2, labels2, x2, l)
		}
		// Bytes that were answered do not hang on those that were handed in any more.
		for _, i := range l {
			spoil(i.Data)
		}
		if !bytes.Equal(b2, want) {
			t.Error(b2)
		}
	}
}

// TestP1TheSameAgain: what is answered hangs on nothing else, many times and side by side.
func TestP1TheSameAgain(t *testing.T) {
	random := seeded(12)
	type answer struct {
		l      []relax.Item
		x      relax.Laid
		b      []byte
		relocs []api.Reloc
		labels []relax.Label
		e      api.Errno
	}
	var wants []answer
	for range 300 {
		a := answer{l: anyTight(random, 24, true)}
		a.x, _ = modelLayout(a.l)
		a.b, a.relocs, a.labels, a.e = modelBytes(a.l)
		wants = append(wants, a)
	}
	done := make(chan bool)
	for range 8 {
		go func() {
			right := true
			for _, a := range wants {
				x, _ := relax.Layout(a.l)
				b, relocs, labels, e := relax.Bytes(a.l)
				right = right && e == a.e && sameLaid(x, a.x) && bytes.Equal(b, a.b) && slices.Equal(relocs, a.relocs) && slices.Equal(labels, a.labels)
			}
			done <- right
		}()
	}
	for range 8 {
		if !<-done {
			t.Error("not the same again")
		}
	}
}
