package reloc_test

import (
	"bytes"
	"math"
	"slices"
	"testing"

	"gangway/api"
	"gangway/reloc"
)

func wildNumbers() []int {
	return append(edges(), -7, 3, 4, 8, 1<<29, 1<<30, 1<<61, 1<<62, -1<<62)
}

// TestP1NothingPanics: all types, places and bytes, wild ones too; with an error nothing else is answered.
func TestP1NothingPanics(t *testing.T) {
	kinds := append(worked(), append(named(), -1, 3, 38, math.MinInt, math.MaxInt)...)
	for _, kind := range kinds {
		for _, n := range wildNumbers() {
			for _, m := range []int{0, 1, -1, n, far, -far, math.MinInt, math.MaxInt} {
				for _, p := range []reloc.Place{{S: n, A: m}, {S: m, P: n}, {G: n, P: m}, {S: n, Tp: m}, {S: n, A: n, P: n, G: n, Tp: m}} {
					v, e := modelValue(kind, p)
					checkValue(t, kind, p, v, e)
					for _, b := range [][]byte{nil, numbered(3), numbered(8)} {
						checkModel(t, b, m, kind, p)
					}
				}
			}
		}
	}
	for _, n := range wildNumbers() {
		size, e := modelSize(n)
		checkSize(t, n, size, e)
		checkName(t, n, modelName(n))
		checkSlot(t, n, n == 9, n == 22, n == 1)
		for _, m := range wildNumbers() {
			is, e := modelFits(n, m)
			checkFits(t, n, m, is, e)
		}
		for _, b := range [][]byte{nil, {0x48}, {0x48, 0x8b, 5}, {0x48, 0x8b, 5, 0, 0, 0, 0}} {
			want, is := modelRelax(b, n)
			checkRelax(t, b, n, want, is)
		}
	}
}

// TestP1MuchEnds: bytes far beyond the limit; Relax has none.
func TestP1MuchEnds(t *testing.T) {
	const many = 1 << 26
	b := make([]byte, many)
	copy(b[many-7:], []byte{0x4c, 0x8b, 0x2d})
	checkApply(t, b, 0, api.R64, reloc.Place{}, nil, api.ErrSize)
	want := slices.Clone(b)
	want[many-6] = 0x8d
	checkRelax(t, b, many-4, want, true)
	checkRelax(t, b, many-5, nil, false)
}

// TestP1NilAndEmpty: they mean the same.
func TestP1NilAndEmpty(t *testing.T) {
	for _, b := range [][]byte{nil, {}} {
		for _, at := range []int{-4, -1, 0, 1, 3} {
			checkApply(t, b, at, api.R64, reloc.Place{}, nil, api.ErrReloc)
			checkApply(t, b, at, api.RNone, reloc.Place{}, nil, api.ErrReloc)
			checkRelax(t, b, at, nil, false)
		}
	}
}

func scratch(b []byte) {
	b = b[:cap(b)]
	for k := range b {
		b[k] = 0xee
	}
}

// TestP1AnswersAreNew: what is done with an answer, and the room behind it, is to be seen in no other one, nor in an argument.
func TestP1AnswersAreNew(t *testing.T) {
	b := append([]byte{0x48, 0x8b, 0x05, 1, 2, 3, 4}, numbered(20)...)
	before := slices.Clone(b)
	p := reloc.Place{S: 77}
	for _, length := range []int{7, 8, 15, 27} {
		first, _ := reloc.Apply(b[:length], 3, api.RPc32, p)
		again, _ := reloc.Apply(b[:length], 3, api.RPc32, p)
		_, to, _ := reloc.Relax(b[:length], 3)
		_, relaxed, _ := reloc.Relax(b[:length], 3)
		want, lea := slices.Clone(again), slices.Clone(relaxed)
		scratch(first)
		scratch(to)
		if !bytes.Equal(b, before) || !bytes.Equal(again, want) || !bytes.Equal(relaxed, lea) {
			t.Error(length, b, again, relaxed)
		}
		checkApply(t, b[:length], 3, api.RPc32, p, want, api.OK)
		checkRelax(t, b[:length], 3, lea, true)
		scratch(again)
		scratch(relaxed)
		if !bytes.Equal(b, before) {
			t.Error(length, b)
		}
	}
}

// TestP1ArgumentsStay: neither what is handed in nor the room behind it is changed, nor is that room read.
func TestP1ArgumentsStay(t *testing.T) {
	room := append([]byte{0x48, 0x8b, 0x05, 1, 2, 3, 4}, numbered(20)...)
	before := slices.Clone(room)
	for length := range len(room) {
		b := room[:length]
		for at := range length + 3 {
			for _, kind := range []int{api.R64, api.R32} {
				want, e := modelApply(slices.Clone(b), at, kind, reloc.Place{S: 0x55667788})
				checkApply(t, b, at, kind, reloc.Place{S: 0x55667788}, want, e)
			}
			want, is := modelRelax(slices.Clone(b), at)
			checkRelax(t, b, at, want, is)
		}
		if !bytes.Equal(room, before) {
			t.Fatal(length, room)
		}
	}
}

// TestP1TheSameAgain: what is answered hangs on the arguments alone, many times and side by side.
func TestP1TheSameAgain(t *testing.T) {
	type call struct {
		b        []byte
		at, kind int
		p        reloc.Place
		want     []byte
		e        api.Errno
	}
	random := seeded(9)
	var calls []call
	for range 500 {
		c := call{b: numbered(random.IntN(20)), at: random.IntN(16), kind: pick(random, append(worked(), named()...)...), p: reloc.Place{S: number(random), A: number(random), P: number(random), G: number(random), Tp: number(random)}}
		c.want, c.e = modelApply(c.b, c.at, c.kind, c.p)
		calls = append(calls, c)
	}
	done := make(chan bool)
	for range 8 {
		go func() {
			same := true
			for range 3 {
				for _, c := range calls {
					got, e := reloc.Apply(c.b, c.at, c.kind, c.p)
					same = same && e == c.e && bytes.Equal(got, c.want) && reloc.Name(c.kind) == modelName(c.kind)
				}
			}
			done <- same
		}()
	}
	for range 8 {
		if !<-done {
			t.Error("not the same again")
		}
	}
}
