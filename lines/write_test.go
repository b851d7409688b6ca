package lines_test

import (
	"bytes"
	"math"
	"slices"
	"strings"
	"testing"

	"gangway/api"
	"gangway/lines"
)

// firstOfExample is the first part of a unit with the one file a.s, byte by byte, but for the length of all.
func firstOfExample() []byte {
	return []byte{
		5, 0, 8, 0, 31, 0, 0, 0, 1, 1, 1, 251, 14, 13,
		0, 1, 1, 1, 1, 0, 0, 0, 1, 0, 0, 1,
		1, 1, 8, 1, 0, 1, 1, 8, 1, 'a', '.', 's', 0,
	}
}

func TestP1502Example(t *testing.T) {
	commands := []byte{0, 9, 2, 0, 16, 0, 0, 0, 0, 0, 0, 20, 33, 2, 4, 0, 1, 1}
	want := join([]byte{57, 0, 0, 0}, firstOfExample(), commands)
	checkWrite(t, example(), want, 46)
}

func TestP1502Files(t *testing.T) {
	checkWrite(t, program("a.s"), join([]byte{39, 0, 0, 0}, firstOfExample()))
	none := []byte{35, 0, 0, 0, 5, 0, 8, 0, 27, 0, 0, 0, 1, 1, 1, 251, 14, 13, 0, 1, 1, 1, 1, 0, 0, 0, 1, 0, 0, 1, 1, 1, 8, 1, 0, 1, 1, 8, 0}
	checkWrite(t, lines.Program{}, none)
	two := join([]byte{40, 0, 0, 0, 5, 0, 8, 0, 32, 0, 0, 0}, none[12:38], []byte{2, 'x', 0, 255, 1, 0})
	checkWrite(t, program("x \xff\x01"), two)
	// Of 128 files and more the number has two bytes, and the lengths have, too.
	many := lines.Program{Files: names(255)}
	b, _ := written(t, many)
	size := 39 + 1 + 255*3
	if len(b) != size || !bytes.Equal(b[:4], number(size-4, 4)) || !bytes.Equal(b[8:12], number(size-12, 4)) || !bytes.Equal(b[38:44], []byte{255, 1, 'a', 'a', 0, 'a'}) {
		t.Error(len(b), b[:44])
	}
	for _, n := range []int{127, 128} {
		b, _ := written(t, lines.Program{Files: names(n)})
		if want := modelUleb(uint64(n)); !bytes.Equal(b[38:38+len(want)], want) || len(b) != 38+len(want)+3*n {
			t.Error(n, b[:44])
		}
	}
	long := strings.Repeat("x", 255)
	b, _ = written(t, program(long))
	if !bytes.Equal(b[38:], join([]byte{1}, []byte(long), []byte{0})) {
		t.Error(b)
	}
}

// TestP1502Rows: the bytes of rows behind the first one, by hand.
func TestP1502Rows(t *testing.T) {
	from := row(0, 1, 100, 7)
	for _, c := range []struct {
		to   lines.Row
		want []byte
	}{
		{row(0, 1, 100, 7), []byte{18}},
		{row(1, 1, 101, 7), []byte{33}},
		{row(0, 1, 95, 7), []byte{13}},
		{row(0, 1, 108, 7), []byte{26}},
		{row(0, 1, 94, 7), []byte{3, 122, 18}},
		{row(0, 1, 109, 7), []byte{3, 9, 18}},
		{row(100, 1, 150, 7), []byte{3, 50, 2, 100, 18}}, // the document's
		{row(0, 1, 163, 7), []byte{3, 63, 18}},
		{row(0, 1, 164, 7), []byte{3, 192, 0, 18}},
		{row(0, 1, 36, 7), []byte{3, 64, 18}},
		{row(0, 1, 35, 7), []byte{3, 191, 127, 18}},
		{row(0, 1, 0, 7), []byte{3, 156, 127, 18}},
		{row(0, 1, mostLine, 7), []byte{3, 155, 255, 255, 255, 7, 18}},
		// The last special one is 255: 16 and 8, or 17 and -1.
		{row(16, 1, 108, 7), []byte{250}},
		{row(17, 1, 99, 7), []byte{255}},
		{row(17, 1, 95, 7), []byte{251}},
		{row(17, 1, 100, 7), []byte{8, 18}},
		{row(17, 1, 108, 7), []byte{8, 26}},
		{row(18, 1, 95, 7), []byte{8, 27}},
		{row(18, 1, 100, 7), []byte{8, 32}},
		{row(33, 1, 108, 7), []byte{8, 250}},
		{row(34, 1, 99, 7), []byte{8, 255}},
		{row(34, 1, 100, 7), []byte{2, 34, 18}},
		{row(34, 1, 108, 7), []byte{2, 34, 26}},
		{row(35, 1, 95, 7), []byte{2, 35, 13}},
		{row(127, 1, 99, 7), []byte{2, 127, 17}},
		{row(128, 1, 101, 7), []byte{2, 128, 1, 19}},
		{row(100000, 1, 101, 7), []byte{2, 160, 141, 6, 19}},
		// A line that is told by itself leaves a step of 0: then 17 is too far.
		{row(16, 1, 94, 7), []byte{3, 122, 242}},
		{row(17, 1, 94, 7), []byte{3, 122, 8, 18}},
		{row(33, 1, 90, 7), []byte{3, 118, 8, 242}},
		{row(34, 1, 90, 7), []byte{3, 118, 2, 34, 18}},
		// The file, the column, the line, the place, in this order.
		{row(0, 2, 100, 7), []byte{4, 2, 18}},
		{row(0, 1, 100, 0), []byte{5, 0, 18}},
		{row(0, 1, 100, 127), []byte{5, 127, 18}},
		{row(0, 1, 100, mostColumn), []byte{5, 255, 255, 3, 18}},
		{row(0, 200, 100, 8), []byte{4, 200, 1, 5, 8, 18}},
		{row(40, 2, 200, 9), []byte{4, 2, 5, 9, 3, 228, 0, 2, 40, 18}},
	} {
		p := lines.Program{Files: names(255), Seqs: []lines.Seq{seq(0, c.to.At, from, c.to)}}
		b, at := written(t, p)
		want := join([]byte{5, 7, 3, 227, 0, 18}, c.want, []byte{0, 1, 1})
		if got := b[at[0]+8:]; !bytes.Equal(got, want) {
			t.Errorf("%v behind %v: %v; want %v", c.to, from, got, want)
		}
	}
}

// TestP1502FirstRow: what the state is at a sequence's beginning, at each of them.
func TestP1502FirstRow(t *testing.T) {
	for _, c := range []struct {
		first lines.Row
		want  []byte
	}{
		{row(0, 1, 1, 0), []byte{18}},
		{row(0, 1, 0, 0), []byte{17}},
		{row(0, 1, 9, 0), []byte{26}},
		{row(0, 1, 10, 0), []byte{3, 9, 18}},
		{row(0, 2, 1, 0), []byte{4, 2, 18}},
		{row(0, 1, 1, 1), []byte{5, 1, 18}},
		{row(3, 1, 1, 0), []byte{60}},
		{row(0, 1, mostLine, 0), []byte{3, 254, 255, 255, 255, 7, 18}},
	} {
		other := seq(1, 9, row(4, 2, 77, 5))
		s := seq(2, c.first.At, c.first)
		b, at := written(t, program("a b", s, other, s))
		for _, k := range []int{0, 2} {
			want := join(c.want, []byte{0, 1, 1})
			if got := b[at[k]+8:]; !bytes.HasPrefix(got, want) {
				t.Errorf("%v: %v; want %v", c.first, got, want)
			}
		}
	}
}

// TestP1502Ends: what is left to Size, and several sequences, with the places of their addresses.
func TestP1502Ends(t *testing.T) {
	first := 4 + 36
	a := seq(0, 0, row(0, 1, 1, 0))
	b := seq(mostStart, 130, row(2, 1, 1, 0))
	c := seq(0x0102030405060708, 1<<20, row(1<<20, 1, 1, 0))
	d := seq(0x3fffffffffffffff, 1<<20, row(0, 1, 1, 0))
	commands := [][]byte{
		{0, 9, 2, 0, 0, 0, 0, 0, 0, 0, 0, 18, 0, 1, 1},
		{0, 9, 2, 0, 0, 0, 0, 0, 0, 0, 64, 46, 2, 128, 1, 0, 1, 1},
		{0, 9, 2, 8, 7, 6, 5, 4, 3, 2, 1, 2, 128, 128, 64, 18, 0, 1, 1},
		{0, 9, 2, 255, 255, 255, 255, 255, 255, 255, 63, 18, 2, 128, 128, 64, 0, 1, 1},
	}
	head := func(n int) []byte {
		return join(number(first-3+n, 4), []byte{5, 0, 8, 0, 29, 0, 0, 0}, firstOfExample()[8:35], []byte{'x', 0})
	}
	one := func(s lines.Seq, want []byte) {
		t.Helper()
		checkWrite(t, program("x", s), join(head(len(want)), want), first+4)
	}
	one(a, commands[0])
	one(b, commands[1])
	one(c, commands[2])
	one(d, commands[3])
	all := join(commands...)
	checkWrite(t, program("x", a, b, c, d), join(head(len(all)), all), first+4, first+4+15, first+4+15+18, first+4+15+18+19)
}

// TestP1502Steps: all steps near the edges, against the model.
func TestP1502Steps(t *testing.T) {
	for a := range 60 {
		for l := -20; l <= 20; l++ {
			p := program("a b", seq(0, a, row(0, 1, 30, 0), row(a, 1, 30+l, 0)))
			want, at, _ := modelWrite(p)
			checkWrite(t, p, want, at...)
		}
	}
}

func TestP1502Model(t *testing.T) {
	random := seeded(2)
	for range 20000 {
		p := anyProgram(random)
		want, at, e := modelWrite(p)
		if e != api.OK {
			t.Fatal(p, e)
		}
		checkCheck(t, p, api.OK)
		checkWrite(t, p, want, at...)
	}
}

// longRows are rows of 13 bytes each.
func longRows(n int) []lines.Row {
	var l []lines.Row
	for k := range n {
		l = append(l, row(0, 2-k%2, (k+1)%2*mostLine, 65534+k%2))
	}
	return l
}

// longProgram is one of so many bytes.
func longProgram(t *testing.T, size int) lines.Program {
	t.Helper()
	p := program("a b c", slices.Repeat([]lines.Seq{seq(0, 0, longRows(mostRows)...)}, 20)...)
	whole, _, _ := modelWrite(p)
	last := seq(0, 0, longRows((size-len(whole)-30)/13)...)
	p.Seqs = append(p.Seqs, last)
	whole, _, _ = modelWrite(p)
	missing := size - len(whole)
	if len(whole) == 0 || missing < 0 || missing > 200 {
		t.Fatal(len(whole), missing)
	}
	p.Files[2] = strings.Repeat("c", 1+missing)
	return p
}

func TestP1502Size(t *testing.T) {
	p := longProgram(t, 1<<20)
	b, at := written(t, p)
	want, wantAt, _ := modelWrite(p)
	if len(b) != 1<<20 || !bytes.Equal(b, want) || !slices.Equal(at, wantAt) {
		t.Error(len(b), at)
	}
	p.Files[2] += "c"
	checkUnwritten(t, p, api.ErrSize)
	p.Seqs = slices.Repeat([]lines.Seq{seq(0, 0, longRows(mostRows)...)}, mostSeqs)
	checkUnwritten(t, p, api.ErrSize)
	// What may not be is named first.
	p.Seqs[63].Rows = longRows(mostRows + 1)
	checkUnwritten(t, p, api.ErrLine)
}

func TestP1502Wrong(t *testing.T) {
	for _, p := range []lines.Program{
		{Files: names(256 - 1), Seqs: []lines.Seq{{}}},
		{Files: []string{""}},
		{Files: []string{"a\x00"}},
		{Files: slices.Repeat([]string{"a"}, 256)},
		program("a", seq(-1, 0, row(0, 1, 1, 0))),
		program("a", seq(0, 0)),
		program("a", seq(0, 1<<20+1, row(0, 1, 1, 0))),
		oneRow(row(0, 3, 1, 0)),
		oneRow(row(-1, 1, 1, 0)),
		oneRow(row(0, 1, -1, 0)),
		oneRow(row(0, 1, math.MaxInt, 0)),
		oneRow(row(0, 1, 1, 65536)),
		program("a", seq(0, 9, row(0, 1, 1, 0)), seq(0, 9, row(2, 1, 1, 0), row(1, 1, 1, 0))),
	} {
		checkCheck(t, p, api.ErrLine)
		checkUnwritten(t, p, api.ErrLine)
	}
}
