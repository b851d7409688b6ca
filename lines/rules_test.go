package lines_test

import (
	"bytes"
	"math"
	"slices"
	"testing"

	"gangway/api"
	"gangway/lines"
)

func wildNumbers() []int {
	return []int{math.MinInt, math.MinInt + 1, -mostStart - 1, -1 << 32, -256, -5, -1, 0, 1, 2, 3, 8, 13, 17, 255, 256, 4000, mostColumn, mostColumn + 1, api.MaxBytes, api.MaxBytes + 1, mostLine, mostLine + 1, 1 << 32, mostStart, mostStart + 1, math.MaxInt - 1, math.MaxInt}
}

// TestP1NothingPanics: numbers, bytes and programs of all sorts; with an error nothing else is answered.
func TestP1NothingPanics(t *testing.T) {
	random := seeded(10)
	wild := func() int { return pick(random, wildNumbers()) }
	for range 30000 {
		p := lines.Program{}
		for range random.IntN(3) {
			p.Files = append(p.Files, pick(random, []string{"", "a", "\x00", "b"}))
		}
		for range random.IntN(3) {
			s := seq(wild(), wild())
			for range random.IntN(3) {
				s.Rows = append(s.Rows, row(wild(), wild(), wild(), wild()))
			}
			p.Seqs = append(p.Seqs, s)
		}
		want, at, e := modelWrite(p)
		checkCheck(t, p, e)
		if e == api.OK {
			checkWrite(t, p, want, at...)
		} else {
			checkUnwritten(t, p, e)
		}
		addr := wild()
		if file, r, ok := modelFind([]lines.Program{p, p}, addr); ok {
			checkFind(t, []lines.Program{p, p}, addr, file, r)
		} else {
			checkNone(t, []lines.Program{p, p}, addr)
		}
		b := make([]byte, random.IntN(60))
		for k := range b {
			b[k] = byte(random.Uint32())
		}
		checkUnread(t, b, api.ErrLine)
		if len(b) > 0 && len(b) < 16 {
			checkUnits(t, b, nil, api.ErrLine)
		}
		b = abUnit(b...)
		if want, e := modelRead(b); e == api.OK {
			checkRead(t, b, want)
		} else {
			checkUnread(t, b, e)
		}
	}
}

// TestP1MuchEnds: lists far beyond the limits, and as much work as may be asked for within them.
func TestP1MuchEnds(t *testing.T) {
	const many = 1 << 21
	long := lines.Program{Files: make([]string, many)}
	checkCheck(t, long, api.ErrLine)
	checkUnwritten(t, long, api.ErrLine)
	long = program("a", make([]lines.Seq, many)...)
	checkCheck(t, long, api.ErrLine)
	checkNone(t, []lines.Program{long}, 0)
	long = program("a", seq(0, 9, make([]lines.Row, many)...))
	checkCheck(t, long, api.ErrLine)
	checkFind(t, []lines.Program{long}, 0, "", lines.Row{})
	checkNone(t, make([]lines.Program, many), 0)
	checkUnread(t, make([]byte, 1<<26), api.ErrSize)
	checkUnits(t, make([]byte, 1<<26), nil, api.ErrSize)
	const rest = 1<<20 - 50
	for c := range 256 {
		checkUnread(t, abUnit(bytes.Repeat([]byte{byte(c)}, rest)...), api.ErrLine)
	}
	for _, c := range [][]byte{{2, 0}, {3, 1, 3, 127}, {4, 1}, {5, 1}, begin(7), {18, 0, 1, 1}, {0, 1, 1}} {
		checkUnread(t, abUnit(bytes.Repeat(c, rest/len(c))...), api.ErrLine)
	}
	commands := join(bytes.Repeat([]byte{3, 1, 3, 127}, rest/4), []byte{1}, end())
	checkRead(t, abUnit(commands...), program("a b", seq(0, 0, row(0, 1, 1, 0))))
}

// TestP1NilAndEmpty: they mean the same.
func TestP1NilAndEmpty(t *testing.T) {
	want := unit(nil, nil)
	for _, files := range [][]string{nil, {}} {
		for _, seqs := range [][]lines.Seq{nil, {}} {
			p := lines.Program{Files: files, Seqs: seqs}
			checkCheck(t, p, api.OK)
			checkWrite(t, p, want)
			checkRead(t, want, p)
			checkNone(t, []lines.Program{p}, 0)
		}
	}
	for _, rows := range [][]lines.Row{nil, {}} {
		p := program("a", lines.Seq{Size: 9, Rows: rows})
		checkCheck(t, p, api.ErrLine)
		checkUnwritten(t, p, api.ErrLine)
		checkNone(t, []lines.Program{p}, 0)
	}
	for _, b := range [][]byte{nil, {}} {
		checkUnread(t, b, api.ErrLine)
		checkUnits(t, b, nil, api.OK)
	}
}

// withRoom is the list with room behind it, filled with rest.
func withRoom[T any](l []T, rest T) []T {
	long := append(slices.Clone(l), slices.Repeat([]T{rest}, 64)...)
	return long[:len(l)]
}

// roomOf is what stands behind.
func roomOf[T any](l []T) []T { return l[:len(l)+64][len(l):] }

// TestP1ArgumentsStay: what is handed in is not changed, nor the room behind it, and that room is not read.
func TestP1ArgumentsStay(t *testing.T) {
	files := withRoom([]string{"a.s"}, "no")
	rows := withRoom(example().Seqs[0].Rows, row(9, 9, 9, 9))
	seqs := withRoom([]lines.Seq{{Start: 4096, Size: 5, Rows: rows}}, seq(7, 7))
	p := lines.Program{Files: files, Seqs: seqs}
	l := withRoom([]lines.Program{p}, program("no"))
	checkCheck(t, p, api.OK)
	b, at := written(t, p)
	checkFind(t, l, 4098, "a.s", row(1, 1, 4, 0))
	if !same(p, example()) || !same(l[0], example()) || !slices.Equal(at, []int{46}) {
		t.Error(p, l, at)
	}
	for k := range 64 {
		if roomOf(files)[k] != "no" || roomOf(rows)[k] != row(9, 9, 9, 9) || roomOf(seqs)[k].Start != 7 || roomOf(l)[k].Files[0] != "no" {
			t.Fatal("the room behind has changed")
		}
	}
	read := withRoom(b, 77)
	checkRead(t, read, example())
	checkUnits(t, read, []lines.Program{example()}, api.OK)
	checkUnread(t, read[:len(b)-1], api.ErrLine)
	if !bytes.Equal(read, b) || !bytes.Equal(roomOf(read), bytes.Repeat([]byte{77}, 64)) {
		t.Error(read)
	}
}

// spoil writes over a list and the room behind it.
func spoil[T any](l []T) {
	clear(l[:cap(l)])
}

// TestP1AnswersAreNew: what is done to an answer, and to the room behind it, is not seen in another one, nor in what was handed in.
func TestP1AnswersAreNew(t *testing.T) {
	p := program("a.s b", seq(4096, 5, row(0, 1, 3, 0), row(1, 1, 4, 0)), seq(1, 2, row(0, 1, 1, 0)), seq(3, 4, row(0, 2, 1, 0), row(0, 2, 1, 0), row(0, 2, 1, 0)))
	kept := clone(p)
	b, at := written(t, p)
	b2, at2 := written(t, p)
	spoil(b)
	spoil(at)
	want, wantAt, _ := modelWrite(kept)
	if !bytes.Equal(b2, want) || !slices.Equal(at2, wantAt) || !same(p, kept) {
		t.Error(b2, at2, p)
	}
	for k := range kept.Seqs {
		read, _ := lines.Read(b2)
		spoil(read.Seqs[k].Rows)
		for i := range kept.Seqs {
			if i != k && !sameSeq(read.Seqs[i], kept.Seqs[i]) {
				t.Error(k, i, read)
			}
		}
	}
	read, _ := lines.Read(b2)
	again, _ := lines.Read(b2)
	units, _ := lines.Units(join(b2, b2))
	spoil(read.Seqs)
	spoil(read.Files)
	spoil(units[0].Seqs[0].Rows)
	spoil(units[0].Files)
	if !same(again, kept) || !same(units[1], kept) || !bytes.Equal(b2, want) {
		t.Error(again, units)
	}
	// Names that were read do not hang on the bytes any more.
	spoil(b2)
	if !same(again, kept) {
		t.Error(again)
	}
}

// TestP1TheSameAgain: what is answered hangs on nothing else, many times and side by side.
func TestP1TheSameAgain(t *testing.T) {
	random := seeded(11)
	var units [][]byte
	for range 300 {
		b, _, _ := modelWrite(anyProgram(random))
		units = append(units, b, spoiled(b, random.IntN))
	}
	done := make(chan bool)
	for range 8 {
		go func() {
			right := true
			for _, b := range units {
				want, wantE := modelRead(b)
				p, e := lines.Read(b)
				right = right && e == wantE && same(p, want)
				want2, wantAt, wantE := modelWrite(p)
				b2, at, e := lines.Write(p)
				right = right && e == wantE && bytes.Equal(b2, want2) && slices.Equal(at, wantAt)
			}
			done <- right
		}()
	}
	for range 8 {
		if !<-done {
			t.Error("not the same again")
		}
	}
}
