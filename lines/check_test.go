package lines_test

import (
	"math"
	"slices"
	"strings"
	"testing"

	"gangway/api"
	"gangway/lines"
)

func TestP1502CheckFiles(t *testing.T) {
	checkCheck(t, lines.Program{}, api.OK)
	for _, n := range []int{1, 2, 254, 255} {
		checkCheck(t, lines.Program{Files: names(n)}, api.OK)
	}
	for _, n := range []int{256, 257, 512, 5000} {
		checkCheck(t, lines.Program{Files: slices.Repeat([]string{"a"}, n)}, api.ErrLine)
	}
	for _, name := range []string{"a", " ", "\x01", "\xff\xfe", "a/b.s", strings.Repeat("x", 254), strings.Repeat("x", 255), strings.Repeat("ä", 127)} {
		checkCheck(t, lines.Program{Files: []string{name}}, api.OK)
		checkCheck(t, lines.Program{Files: []string{"a", name}}, api.OK)
	}
	for _, name := range []string{"", "\x00", "a\x00", "\x00a", "a\x00b", strings.Repeat("x", 256), strings.Repeat("ä", 128), strings.Repeat("x", 5000)} {
		checkCheck(t, lines.Program{Files: []string{name}}, api.ErrLine)
		checkCheck(t, lines.Program{Files: []string{"a", name}}, api.ErrLine)
		checkCheck(t, lines.Program{Files: []string{name, "a"}}, api.ErrLine)
	}
	// The same name twice is no fault.
	checkCheck(t, program("a a"), api.OK)
}

func TestP1502CheckSeqs(t *testing.T) {
	s := seq(0, 0, row(0, 1, 0, 0))
	for n, e := range map[int]api.Errno{0: 0, 1: 0, 63: 0, 64: 0, 65: api.ErrLine, 200: api.ErrLine} {
		checkCheck(t, program("a", slices.Repeat([]lines.Seq{s}, n)...), e)
	}
	for start, e := range map[int]api.Errno{0: 0, 1: 0, mostStart - 1: 0, mostStart: 0, mostStart + 1: api.ErrLine, -1: api.ErrLine, math.MinInt: api.ErrLine, math.MaxInt: api.ErrLine} {
		checkCheck(t, withSeq(func(s *lines.Seq) { s.Start = start }), e)
	}
	for size, e := range map[int]api.Errno{9: 0, 10: 0, 1<<20 - 1: 0, 1 << 20: 0, 1<<20 + 1: api.ErrLine, 8: api.ErrLine, 0: api.ErrLine, -1: api.ErrLine, math.MinInt: api.ErrLine, math.MaxInt: api.ErrLine} {
		checkCheck(t, withSeq(func(s *lines.Seq) { s.Size = size }), e)
	}
	for n, e := range map[int]api.Errno{0: api.ErrLine, 1: 0, 3999: 0, 4000: 0, 4001: api.ErrLine, 9000: api.ErrLine} {
		checkCheck(t, program("a", seq(0, 5, slices.Repeat([]lines.Row{row(5, 1, 1, 1)}, n)...)), e)
	}
	// A fault is one in any sequence.
	right, wrong := s, seq(0, 0)
	checkCheck(t, program("a", right, wrong), api.ErrLine)
	checkCheck(t, program("a", wrong, right), api.ErrLine)
	checkCheck(t, program("a", right, right, seq(-1, 0, row(0, 1, 0, 0))), api.ErrLine)
}

func TestP1502CheckRows(t *testing.T) {
	for _, ats := range [][]int{{0}, {50}, {0, 0, 0}, {0, 50}, {50, 50}, {1, 2, 3}, {7, 7, 9, 9}} {
		checkCheck(t, withRows(ats), api.OK)
	}
	for _, ats := range [][]int{{-1}, {51}, {0, -1}, {1, 0}, {0, 51}, {50, 49}, {1, 2, 1}, {9, 7, 9}, {math.MinInt}, {math.MaxInt}, {-1, 0}} {
		checkCheck(t, withRows(ats), api.ErrLine)
	}
	for _, r := range []lines.Row{row(0, 1, 0, 0), row(0, 2, mostLine, mostColumn), row(100000, 1, 1, 1)} {
		checkCheck(t, oneRow(r), api.OK)
	}
	for _, n := range []int{-1, 0, 3, 255, 256, math.MinInt, math.MaxInt} {
		checkCheck(t, oneRow(row(0, n, 1, 1)), api.ErrLine)
	}
	for _, n := range []int{-1, mostLine + 1, 1 << 32, math.MinInt, math.MaxInt} {
		checkCheck(t, oneRow(row(0, 1, n, 1)), api.ErrLine)
	}
	for _, n := range []int{-1, mostColumn + 1, 1 << 32, math.MinInt, math.MaxInt} {
		checkCheck(t, oneRow(row(0, 1, 1, n)), api.ErrLine)
	}
	// Without files there is no row that may be; with 255 of them the last one is 255.
	checkCheck(t, program("", seq(0, 0, row(0, 1, 1, 0))), api.ErrLine)
	checkCheck(t, program("", seq(0, 0, row(0, 0, 1, 0))), api.ErrLine)
	checkCheck(t, lines.Program{Files: names(255), Seqs: []lines.Seq{seq(0, 0, row(0, 255, 1, 0))}}, api.OK)
	checkCheck(t, lines.Program{Files: names(255), Seqs: []lines.Seq{seq(0, 0, row(0, 256, 1, 0))}}, api.ErrLine)
}

func withRows(ats []int) lines.Program {
	return withSeq(func(s *lines.Seq) {
		s.Rows = nil
		for _, at := range ats {
			s.Rows = append(s.Rows, row(at, 1, 1, 0))
		}
	})
}

// TestP1502CheckModel: with one number of a program that may be made any other one.
func TestP1502CheckModel(t *testing.T) {
	random := seeded(1)
	right, wrong := 0, 0
	for range 20000 {
		p := clone(anyProgram(random))
		if len(p.Seqs) > 0 {
			s := &p.Seqs[random.IntN(len(p.Seqs))]
			r := &s.Rows[random.IntN(len(s.Rows))]
			n := pick(random, []*int{&s.Start, &s.Size, &r.At, &r.File, &r.Line, &r.Column})
			*n = pick(random, append(wildNumbers(), *n-1, *n, *n+1))
		}
		want := api.ErrLine
		if modelCheck(p) {
			want = api.OK
			right++
		} else {
			wrong++
		}
		checkCheck(t, p, want)
	}
	if right < 3000 || wrong < 3000 {
		t.Error(right, wrong)
	}
}
