package cfa_test

import (
	"math"
	"slices"
	"strings"
	"testing"

	"gangway/api"
	"gangway/cfa"
)

// TestP1NothingPanics: ops, events, places and sizes of all sorts; with an error nothing else is answered.
func TestP1NothingPanics(t *testing.T) {
	random := seeded(11)
	numbers := wildNumbers()
	names := []string{"", "offset", "rel_offset", "adjust_cfa_offset", "def_cfa", "restore_state", "remember_state", "restore", "\xff"}
	for range 20000 {
		var initial, l []cfa.Op
		var v []cfa.Event
		var rows []cfa.Row
		for range random.IntN(6) {
			initial, l = append(initial, wildOp(random)), append(l, wildOp(random))
			v = append(v, event(pick(random, numbers), pick(random, names), pick(random, numbers), pick(random, numbers)))
			v[len(v)-1].Args = v[len(v)-1].Args[:random.IntN(3)]
			rows = append(rows, at(pick(random, numbers), pick(random, numbers), pick(random, numbers)))
		}
		size := pick(random, append(numbers, api.MaxBytes, api.MaxBytes+1))
		checkRowsByModel(t, initial, l, size)
		checkRowsByModel(t, cfa.Usual(), l, size)
		want, e := modelCompile(v, size)
		checkCompile(t, v, size, want, e)
		if row, ok := cfa.Find(rows, size); !ok && row != (cfa.Row{}) || ok && (size < 0 || !slices.Contains(rows, row)) {
			t.Error(rows, size, row, ok)
		}
		right := !slices.ContainsFunc(l, func(o cfa.Op) bool { return !modelMayBe(o) })
		if b, e := cfa.Write(l); (e == api.OK) != right || !right && (e != api.ErrCfa || len(b) > 0) {
			t.Error(l, b, e)
		}
	}
}

// TestP1MuchEnds: lists far beyond the limits.
func TestP1MuchEnds(t *testing.T) {
	const many = 1 << 21
	l := make([]cfa.Op, many)
	checkRefused(t, l, nil, 0, api.ErrSize)
	checkRefused(t, nil, l, 0, api.ErrSize)
	checkRefused(t, l, l, -1, api.ErrRange)
	checkWrite(t, l, nil, api.ErrSize)
	checkRead(t, make([]byte, many), nil, api.ErrSize)
	checkCompile(t, make([]cfa.Event, many), 0, nil, api.ErrSize)
	rows := make([]cfa.Row, 1<<18)
	for k := range rows {
		rows[k].At = k
	}
	checkFind(t, rows, math.MaxInt, rows[len(rows)-1], true)
	checkFind(t, rows, 1000, rows[1000], true)
	checkCompile(t, events(event(0, strings.Repeat("x", 1<<24))), 0, nil, api.ErrCfa)
	checkCompile(t, events(event(0, "offset", make([]int, many)...)), 0, nil, api.ErrCfa)
}

// TestP1NilAndEmpty: they mean the same.
func TestP1NilAndEmpty(t *testing.T) {
	for _, l := range [][]cfa.Op{nil, {}} {
		checkRefused(t, l, nil, 0, api.ErrCfa)
		checkRefused(t, l, l, 0, api.ErrCfa)
		checkRows(t, cfa.Usual(), l, 0, []cfa.Row{usualAt(0, 8)}, api.OK)
		checkWrite(t, l, nil, api.OK)
	}
	for _, args := range [][]int{nil, {}} {
		checkCompile(t, []cfa.Event{{Name: "remember_state", Args: args}}, 0, ops(remember()), api.OK)
	}
}

// withRoom is the list with room behind it, filled with rest.
func withRoom[T any](l []T, rest T) []T {
	long := append(slices.Clone(l), slices.Repeat([]T{rest}, 64)...)
	return long[:len(l)]
}

// checkRoom: neither the list nor the room behind it has changed.
func checkRoom[T comparable](t *testing.T, l, before []T, rest T) {
	t.Helper()
	behind := l[:len(l)+64][len(l):]
	if !slices.Equal(l, before) || slices.ContainsFunc(behind, func(x T) bool { return x != rest }) {
		t.Error(l, before, behind)
	}
}

// TestP1301ArgumentsStay: what is handed in is not changed, nor the room behind it, and that room is not read.
func TestP1301ArgumentsStay(t *testing.T) {
	wrong := cfa.Op{Kind: 99}
	program := ops(remember(), advance(1), offset(6, -16), advance(3), recall(), restore(6), advance(70))
	initial, l := withRoom(cfa.Usual(), wrong), withRoom(program, wrong)
	rows, e := cfa.Rows(initial, l, 100)
	if e != api.OK || len(rows) != 4 || cfa.Check(initial, l, 100) != api.OK {
		t.Error(rows, e)
	}
	b, e := cfa.Write(l)
	if e != api.OK {
		t.Error(e)
	}
	checkRoom(t, initial, cfa.Usual(), wrong)
	checkRoom(t, l, program, wrong)

	read := withRoom(b, 1)
	checkRead(t, read, program, api.OK)
	checkRoom(t, read, b, 1)

	table := withRoom(rows, cfa.Row{At: 5, R: 99})
	checkFind(t, table, 1000, rows[3], true)
	checkRoom(t, table, rows, cfa.Row{At: 5, R: 99})

	args := withRoom([]int{3, 8}, 7)
	list := []cfa.Event{{At: 2, Name: "rel_offset", Args: args}, {At: 2, Name: "foo"}}
	checkCompile(t, list[:1], 5, ops(advance(2), offset(3, 0)), api.OK)
	checkRoom(t, args, []int{3, 8}, 7)
	if list[0].At != 2 || list[0].Name != "rel_offset" || list[1].Name != "foo" {
		t.Error(list)
	}
}

// TestP1301AnswersAreNew: what is done to an answer, and to the room behind it, is not seen in another one, nor in what was handed in.
func TestP1301AnswersAreNew(t *testing.T) {
	spoil := func(l []cfa.Op) {
		for k := range l[:cap(l)] {
			l[:cap(l)][k] = cfa.Op{Kind: 99, R: 99, N: 99}
		}
	}
	for range 3 {
		usual := cfa.Usual()
		if !slices.Equal(usual, ops(defCfa(7, 8), offset(16, -8))) {
			t.Error(usual)
		}
		spoil(usual)
		initial, l := cfa.Usual(), ops(advance(1), offset(6, -16), advance(1))
		rows, e := cfa.Rows(initial, l, 2)
		again, _ := cfa.Rows(initial, l, 2)
		if e != api.OK || len(rows) != 3 {
			t.Error(rows, e)
		}
		for k := range rows[:cap(rows)] {
			rows[:cap(rows)][k] = cfa.Row{At: 99, R: 99}
		}
		if !slices.Equal(again, []cfa.Row{usualAt(0, 8), saved(usualAt(1, 8), 6, -16), saved(usualAt(2, 8), 6, -16)}) {
			t.Error(again)
		}
		compiled, e := cfa.Compile(events(event(1, "offset", 6, -16), event(2, "undefined", 3)), 2)
		if e != api.OK || !slices.Equal(compiled, ops(advance(1), offset(6, -16), advance(1), undefined(3))) {
			t.Error(compiled, e)
		}
		spoil(compiled)
		b, e := cfa.Write(l)
		if e != api.OK || string(b) != "\x41\x86\x02\x41" {
			t.Error(b, e)
		}
		read, e := cfa.Read(b)
		for k := range b[:cap(b)] {
			b[:cap(b)][k] = 1
		}
		if e != api.OK || !slices.Equal(read, l) {
			t.Error(read, e)
		}
		spoil(read)
		if !slices.Equal(l, ops(advance(1), offset(6, -16), advance(1))) {
			t.Error(l)
		}
	}
}

// TestP1301TheSameAgain: what is answered hangs on nothing else, many times and side by side.
func TestP1301TheSameAgain(t *testing.T) {
	random := seeded(12)
	var programs [][]cfa.Op
	var lists [][]cfa.Event
	for range 200 {
		programs = append(programs, wildProgram(random, 20, 40))
		lists = append(lists, wildEvents(random, 10, 40))
	}
	done := make(chan bool)
	for range 8 {
		go func() {
			same := true
			for k := range programs {
				want, wantE := modelRows(cfa.Usual(), programs[k], 40)
				rows, e := cfa.Rows(cfa.Usual(), programs[k], 40)
				same = same && e == wantE && slices.Equal(rows, want)
				b, e := cfa.Write(programs[k])
				back, e2 := cfa.Read(b)
				same = same && e == api.OK && e2 == api.OK && slices.Equal(back, programs[k])
				wantOps, wantE := modelCompile(lists[k], 40)
				compiled, e := cfa.Compile(lists[k], 40)
				same = same && e == wantE && slices.Equal(compiled, wantOps)
			}
			done <- same
		}()
	}
	for range 8 {
		if !<-done {
			t.Error("not the same again")
		}
	}
}
