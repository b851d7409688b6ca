package lines_test

import (
	"bytes"
	"math/rand/v2"
	"slices"
	"strings"
	"testing"

	"gangway/api"
	"gangway/lines"
)

const (
	mostFiles  = 255
	mostSeqs   = 64
	mostRows   = 4000
	mostStart  = 1 << 62
	mostLine   = 1<<31 - 1
	mostColumn = 65535
)

func seeded(n uint64) *rand.Rand { return rand.New(rand.NewPCG(15, n)) }

func pick[T any](random *rand.Rand, l []T) T { return l[random.IntN(len(l))] }

func join(l ...[]byte) []byte { return bytes.Join(l, nil) }

func row(at, file, line, column int) lines.Row {
	return lines.Row{At: at, File: file, Line: line, Column: column}
}

func seq(start, size int, rows ...lines.Row) lines.Seq {
	return lines.Seq{Start: start, Size: size, Rows: rows}
}

func program(files string, seqs ...lines.Seq) lines.Program {
	return lines.Program{Files: strings.Fields(files), Seqs: seqs}
}

// example is the document's.
func example() lines.Program {
	return program("a.s", seq(4096, 5, row(0, 1, 3, 0), row(1, 1, 4, 0)))
}

// oneRow is a program of two files with that row alone.
func oneRow(r lines.Row) lines.Program { return program("a b", seq(0, 100000, r)) }

// withSeq is a program of two files with those changes to a sequence that may be.
func withSeq(change func(s *lines.Seq)) lines.Program {
	s := seq(4096, 50, row(0, 1, 1, 0), row(9, 2, 7, 3))
	change(&s)
	return program("a b", s)
}

// names are so many files.
func names(n int) []string {
	var l []string
	for k := range n {
		l = append(l, string([]byte{byte('a' + k/26), byte('a' + k%26)}))
	}
	return l
}

func number(n, size int) []byte {
	var b []byte
	for k := range size {
		b = append(b, byte(n>>(8*k)))
	}
	return b
}

// unit puts a right first part ahead of commands, for files that need not be right.
func unit(files []string, commands []byte) []byte {
	b := []byte{1, 1, 1, 251, 14, 13, 0, 1, 1, 1, 1, 0, 0, 0, 1, 0, 0, 1, 1, 1, 8, 1, 0, 1, 1, 8}
	b = append(b, modelUleb(uint64(len(files)))...)
	for _, f := range files {
		b = append(append(b, f...), 0)
	}
	length := len(b)
	b = join([]byte{5, 0, 8, 0}, number(length, 4), b, commands)
	return join(number(len(b), 4), b)
}

// abUnit is one of two files.
func abUnit(commands ...byte) []byte { return unit([]string{"a", "b"}, commands) }

// begin and end of a sequence.
func begin(start int) []byte { return join([]byte{0, 9, 2}, number(start, 8)) }

func end() []byte { return []byte{0, 1, 1} }

func sameSeq(x, y lines.Seq) bool {
	return x.Start == y.Start && x.Size == y.Size && slices.Equal(x.Rows, y.Rows)
}

func same(x, y lines.Program) bool {
	return slices.Equal(x.Files, y.Files) && slices.EqualFunc(x.Seqs, y.Seqs, sameSeq)
}

func isNothing(p lines.Program) bool { return len(p.Files) == 0 && len(p.Seqs) == 0 }

// clone shares nothing with p.
func clone(p lines.Program) lines.Program {
	p.Files, p.Seqs = slices.Clone(p.Files), slices.Clone(p.Seqs)
	for k := range p.Seqs {
		p.Seqs[k].Rows = slices.Clone(p.Seqs[k].Rows)
	}
	return p
}

// shown is as much of a long list as can be read.
func shown[T any](l []T) []T { return l[:min(len(l), 120)] }

func checkCheck(t *testing.T, p lines.Program, wantE api.Errno) {
	t.Helper()
	if e := lines.Check(p); e != wantE {
		t.Errorf("Check of %d files %.40q, %d seqs %v: %d; want %d", len(p.Files), shown(p.Files), len(p.Seqs), shown(p.Seqs)[:min(len(p.Seqs), 1)], e, wantE)
	}
}

// checkUnwritten: nothing is written, for that error.
func checkUnwritten(t *testing.T, p lines.Program, wantE api.Errno) {
	t.Helper()
	if b, at, e := lines.Write(p); len(b) != 0 || len(at) != 0 || e != wantE {
		t.Errorf("Write of %d files, %d seqs: %d bytes, %v, %d; want none, %d", len(p.Files), len(p.Seqs), len(b), at, e, wantE)
	}
}

func checkWrite(t *testing.T, p lines.Program, want []byte, wantAt ...int) {
	t.Helper()
	if b, at, e := lines.Write(p); e != api.OK || !bytes.Equal(b, want) || !slices.Equal(at, wantAt) {
		t.Errorf("Write of %.60q, %v: %d bytes %v, %v, %d; want %d bytes %v, %v", shown(p.Files), shown(p.Seqs), len(b), shown(b), at, e, len(want), shown(want), wantAt)
	}
}

// written is what must be written.
func written(t *testing.T, p lines.Program) ([]byte, []int) {
	t.Helper()
	b, at, e := lines.Write(p)
	if e != api.OK || len(at) != len(p.Seqs) {
		t.Fatalf("Write of %d files, %d seqs: %v, %d", len(p.Files), len(p.Seqs), at, e)
	}
	return b, at
}

func checkRead(t *testing.T, b []byte, want lines.Program) {
	t.Helper()
	if p, e := lines.Read(b); e != api.OK || !same(p, want) {
		t.Errorf("Read of %d bytes %v: %v, %d; want %v", len(b), shown(b), p, e, want)
	}
}

// checkUnread: nothing is read, for that error.
func checkUnread(t *testing.T, b []byte, wantE api.Errno) {
	t.Helper()
	if p, e := lines.Read(b); e != wantE || !isNothing(p) {
		t.Errorf("Read of %d bytes %v: %v, %d; want none, %d", len(b), shown(b), p, e, wantE)
	}
}

func checkUnits(t *testing.T, b []byte, want []lines.Program, wantE api.Errno) {
	t.Helper()
	if l, e := lines.Units(b); e != wantE || !slices.EqualFunc(l, want, same) {
		t.Errorf("Units of %d bytes %v: %v, %d; want %v, %d", len(b), shown(b), l, e, want, wantE)
	}
}

func checkFind(t *testing.T, l []lines.Program, addr int, wantFile string, want lines.Row) {
	t.Helper()
	if f, r, ok := lines.Find(l, addr); f != wantFile || r != want || !ok {
		t.Errorf("Find of %d: %q, %v, %v; want %q, %v", addr, f, r, ok, wantFile, want)
	}
}

func checkNone(t *testing.T, l []lines.Program, addr int) {
	t.Helper()
	if f, r, ok := lines.Find(l, addr); f != "" || r != (lines.Row{}) || ok {
		t.Errorf("Find of %d: %q, %v, %v; want none", addr, f, r, ok)
	}
}
