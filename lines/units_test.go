package lines_test

import (
	"bytes"
	"slices"
	"strings"
	"testing"

	"gangway/api"
	"gangway/lines"
)

func TestP1504Units(t *testing.T) {
	checkUnits(t, nil, nil, api.OK)
	l := []lines.Program{example(), {}, program("x y"), program("b", seq(1, 2, row(1, 1, 9, 9)), seq(0, 0, row(0, 1, 1, 0)))}
	var b []byte
	for k, p := range l {
		one, _ := written(t, p)
		b = join(b, one)
		checkUnits(t, b, l[:k+1], api.OK)
	}
	one, _ := written(t, example())
	for _, n := range []int{1, 2, 15, 16} {
		checkUnits(t, bytes.Repeat(one, n), slices.Repeat([]lines.Program{example()}, n), api.OK)
	}
	for _, n := range []int{17, 18, 100} {
		checkUnits(t, bytes.Repeat(one, n), nil, api.ErrSize)
	}
}

func TestP1504Wrong(t *testing.T) {
	one, _ := written(t, example())
	wrong := bytes.Clone(one)
	wrong[4] = 4
	for _, b := range [][]byte{
		wrong, join(one, wrong), join(wrong, one), join(one, wrong, one),
		join(one, []byte{0}), join(one, one[:4]), join(one, one[:3]), join(one, one[:len(one)-1]),
		{0}, {0, 0, 0}, {0, 0, 0, 0}, {255, 255, 255, 255}, one[1:], one[:len(one)-1],
		join(one, []byte{0, 0, 0, 0}, one), join([]byte{0, 0, 0, 0}, one), join(one, []byte{255, 255, 255, 255}, one),
		join(one, number(3, 4), []byte{5, 0, 8}),
	} {
		checkUnits(t, b, nil, api.ErrLine)
	}
	// A unit whose length is more than its own takes what stands behind it in.
	long := bytes.Clone(one)
	copy(long, number(len(one)-4+len(one), 4))
	checkUnits(t, join(long, one), nil, api.ErrLine)
	for k := range one {
		if k > 0 {
			checkUnits(t, join(one, one[:k]), nil, api.ErrLine)
		}
	}
}

// TestP1504First: too many units are named ahead of one that can't be read.
func TestP1504First(t *testing.T) {
	one, _ := written(t, example())
	wrong := bytes.Clone(one)
	wrong[4] = 4
	checkUnits(t, join(wrong, bytes.Repeat(one, 16)), nil, api.ErrSize)
	checkUnits(t, join(bytes.Repeat(one, 16), wrong), nil, api.ErrSize)
	checkUnits(t, join(bytes.Repeat(one, 15), wrong), nil, api.ErrLine)
	checkUnits(t, bytes.Repeat([]byte{0, 0, 0, 0}, 16), nil, api.ErrLine)
	checkUnits(t, bytes.Repeat([]byte{0, 0, 0, 0}, 17), nil, api.ErrSize)
	checkUnits(t, make([]byte, 1<<20), nil, api.ErrSize)
	// What is left over begins one more.
	checkUnits(t, join(bytes.Repeat(one, 15), one[:9]), nil, api.ErrLine)
	checkUnits(t, join(bytes.Repeat(one, 16), one[:9]), nil, api.ErrSize)
	checkUnits(t, join(bytes.Repeat(one, 16), []byte{0}), nil, api.ErrSize)
}

func TestP1504Size(t *testing.T) {
	p := longProgram(t, 1<<20-100)
	b, _ := written(t, p)
	name := ""
	for size := 0; ; size++ {
		name = strings.Repeat("x", size+1)
		if len(b)+len(unit([]string{name}, nil)) == 1<<20 {
			break
		}
	}
	other, _ := written(t, program(name))
	l, e := lines.Units(join(b, other))
	if e != api.OK || len(l) != 2 || !same(l[0], p) || !same(l[1], program(name)) {
		t.Error(len(l), e)
	}
	other, _ = written(t, program(name+"x"))
	checkUnits(t, join(b, other), nil, api.ErrSize)
	checkUnits(t, bytes.Repeat([]byte{255}, 1<<20), nil, api.ErrLine)
	checkUnits(t, bytes.Repeat([]byte{255}, 1<<20+1), nil, api.ErrSize)
}
