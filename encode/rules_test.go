package encode_test

import (
	"bytes"
	"math"
	"slices"
	"strings"
	"testing"

	"gangway/api"
	"gangway/encode"
	"gangway/forms"
)

func wild() []int {
	return []int{math.MinInt, math.MinInt + 8, -1 << 32, -129, -9, -8, -4, -2, -1, 0, 1, 2, 3, 4, 5, 8, 13, 14, 15, 16, 17, 31, 63, 64, 255, 1 << 31, 1 << 32, math.MaxInt - 8, math.MaxInt - 1, math.MaxInt}
}

// checkAnswers: Check's error and nothing beside it, or bytes; and the same again.
func checkAnswers(t *testing.T, i api.Inst) {
	t.Helper()
	b, h, e := encode.Bytes(i)
	n, el := encode.Length(i)
	want := forms.Check(i)
	if e != want || el != want || n != len(b) || want != api.OK && len(b)+len(h) != 0 || want == api.OK && len(b) == 0 {
		t.Fatalf("%+v: %v, %v, %d; %d, %d; want %d", i, b, h, e, n, el, want)
	}
	if again, holes, _ := encode.Bytes(i); !bytes.Equal(again, b) || !slices.Equal(holes, h) {
		t.Fatalf("%+v: not the same again", i)
	}
}

// TestP1NothingPanics: each field made wild, one or several at a time, in instructions of all ops.
func TestP1NothingPanics(t *testing.T) {
	for op := -1; op <= api.LastOp+1; op++ {
		for _, n := range wild() {
			checkAnswers(t, api.Inst{Op: n, Size: op, Cond: n})
			for kind := -1; kind <= 5; kind++ {
				for _, size := range []int{n, 0, 1, 4, 8} {
					o := api.Operand{Kind: kind, R: n, Base: n, Index: n, Scale: n, N: n, Mod: n, Name: strings.Repeat("n", int(uint(n)%300))}
					checkAnswers(t, api.Inst{Op: op, Size: size, Cond: n, To: o, From: o, Short: true})
					checkAnswers(t, api.Inst{Op: op, Size: size, To: o})
					checkAnswers(t, api.Inst{Op: op, Size: size, From: o})
					checkAnswers(t, api.Inst{Op: op, Size: size, To: api.Operand{Kind: kind, R: n}, From: api.Operand{Kind: kind, N: n}})
					checkAnswers(t, api.Inst{Op: op, Size: size, To: api.Operand{Kind: kind, N: n}, Cond: n, Short: true})
					checkAnswers(t, api.Inst{Op: op, Size: size, To: api.Operand{Kind: kind, Rip: true, Base: -1, Index: -1, N: n, Name: "x", Mod: n}})
					checkAnswers(t, api.Inst{Op: op, Size: size, To: api.Operand{Kind: kind, Base: 1, Index: n, Scale: n, N: n}, From: reg(1)})
				}
			}
		}
	}
	for _, b := range [][]byte{nil, {}, {0}, bytes.Repeat([]byte{7}, 100)} {
		encode.Text(b)
		for _, at := range wild() {
			for _, size := range wild() {
				for _, v := range wild() {
					encode.Fill(b, api.Hole{At: at, Size: size, Type: v, Add: v}, v)
				}
			}
		}
	}
}

// TestP1NilAndEmpty: they mean the same.
func TestP1NilAndEmpty(t *testing.T) {
	for _, size := range []int{0, 1, 4, 8} {
		a, ea := encode.Fill(nil, api.Hole{Size: size}, 0)
		b, eb := encode.Fill([]byte{}, api.Hole{Size: size}, 0)
		if len(a)+len(b) != 0 || ea != api.ErrRange || eb != api.ErrRange {
			t.Errorf("Fill of %d: %v, %d; %v, %d", size, a, ea, b, eb)
		}
	}
}

// TestP1AnswersAreNew: what was answered once is not changed by what is done with another answer, and the room behind it.
func TestP1AnswersAreNew(t *testing.T) {
	i := inst(api.Mov, 4, named(rip(3), "x", api.Plain), imm(5))
	first, holes, _ := encode.Bytes(i)
	second, more, _ := encode.Bytes(i)
	want, wantHoles := bytes.Clone(second), slices.Clone(more)
	for k := range first[:cap(first)] {
		first[:cap(first)][k] ^= 255
	}
	for k := range holes[:cap(holes)] {
		holes[:cap(holes)][k] = api.Hole{At: -1}
	}
	third, again, _ := encode.Bytes(i)
	if !bytes.Equal(second, want) || !bytes.Equal(third, want) || !slices.Equal(more, wantHoles) || !slices.Equal(again, wantHoles) {
		t.Errorf("%v %v, %v %v; want %v %v", second, more, third, again, want, wantHoles)
	}
}

// TestP1ArgumentsStay: neither bytes that are handed in nor the room behind them are changed.
func TestP1ArgumentsStay(t *testing.T) {
	whole := []byte{200, 129, 3, 0, 255, 255, 1, 77, 78, 79}
	before := bytes.Clone(whole)
	b := whole[:5]
	for _, at := range wild() {
		for _, size := range wild() {
			encode.Fill(b, api.Hole{At: at, Size: size}, 1)
		}
	}
	if encode.Text(b) != "c8 81 03 00 ff" || !bytes.Equal(whole, before) {
		t.Error(whole)
	}
}
