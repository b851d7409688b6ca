package decode_test

import (
	"bytes"
	"math"
	"slices"
	"testing"

	"gangway/api"
	"gangway/decode"
)

// TestP1NothingPanics: bytes of all kinds, at all places.
func TestP1NothingPanics(t *testing.T) {
	lists := [][]byte{nil, {}, {0}, bytes.Repeat([]byte{0x64}, 100), bytes.Repeat([]byte{0x48}, 100), bytes.Repeat([]byte{0x0f}, 100), bytes.Repeat([]byte{0xff}, 100)}
	for x := range 256 {
		for y := 0; y < 256; y += 5 {
			lists = append(lists, []byte{byte(x), byte(y)}, []byte{0x64, byte(x), byte(y)}, []byte{0x48, byte(x), byte(y)}, []byte{0x0f, byte(x), byte(y)})
		}
	}
	for _, b := range lists {
		for _, at := range []int{math.MinInt, math.MinInt + 1, -1, 0, 1, len(b) - 1, len(b), len(b) + 1, math.MaxInt - 1, math.MaxInt} {
			i, n, e := decode.One(b, at)
			if e != api.OK && (i != (api.Inst{}) || n != 0) || (e == api.ErrRange) != (at < 0 || at > len(b)) {
				t.Fatalf("One(% x, %d): %+v, %d, %d", b, at, i, n, e)
			}
			if j, m, f := decode.One(b, at); j != i || m != n || f != e {
				t.Fatalf("One(% x, %d): not the same again", b, at)
			}
		}
		list, at, e := decode.All(b)
		s, f := decode.Show(b, math.MaxUint64)
		if e != f || len(list) != len(at) || e != api.OK && (len(list) != 0 || s != "") {
			t.Fatalf("All(% x): %v, %v, %d; Show: %q, %d", b, list, at, e, s, f)
		}
		decode.Sweep(b)
	}
}

// TestP1MuchEnds: many bytes, whole and cut off.
func TestP1MuchEnds(t *testing.T) {
	b := bytes.Repeat([]byte{0x90}, api.MaxBytes/8)
	list, at, e := decode.All(b)
	if len(list) != len(b) || len(at) != len(b) || at[len(b)-1] != len(b)-1 || e != api.OK {
		t.Errorf("%d, %d, %d", len(list), len(at), e)
	}
	if n := len(decode.Sweep(b)); n != len(b) {
		t.Errorf("Sweep: %d", n)
	}
	b[len(b)-1] = 0x48
	if list, at, e := decode.All(b); len(list)+len(at) != 0 || e != api.ErrEnd {
		t.Errorf("%d, %d, %d", len(list), len(at), e)
	}
}

// TestP1AnswersAreNew: what was answered once is not changed by what is done with another answer, and the room behind it.
func TestP1AnswersAreNew(t *testing.T) {
	b := raw("50 48 89 c3 c3")
	list, at, _ := decode.All(b)
	places := decode.Sweep(b)
	for k := range list[:cap(list)] {
		list[:cap(list)][k] = api.Inst{Op: -1}
	}
	for k := range at[:cap(at)] {
		at[:cap(at)][k] = -1
	}
	for k := range places[:cap(places)] {
		places[:cap(places)][k] = -1
	}
	checkAll(t, b, []api.Inst{inst(api.Push, 8, api.Operand{}, reg(0)), inst(api.Mov, 8, reg(3), reg(0)), inst(api.Ret, 0, api.Operand{}, api.Operand{})}, []int{0, 1, 4}, api.OK)
	if again := decode.Sweep(b); !slices.Equal(again, []int{0, 1, 2, 3, 4}) {
		t.Error(again)
	}
}

// TestP1ArgumentsStay: neither the bytes nor the room behind them are changed, nor is that room read.
func TestP1ArgumentsStay(t *testing.T) {
	room := raw("50 48 89 c3 48 89 c3 77 78")
	before := bytes.Clone(room)
	for n := range room {
		b := room[:n]
		decode.One(b, 0)
		decode.All(b)
		decode.Sweep(b)
		decode.Show(b, 1)
	}
	if !bytes.Equal(room, before) {
		t.Error(room)
	}
	if _, _, e := decode.One(room[:3], 1); e != api.ErrEnd {
		t.Errorf("beyond the bytes: %d", e)
	}
}
