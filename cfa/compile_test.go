package cfa_test

import (
	"math"
	"slices"
	"strings"
	"testing"

	"gangway/api"
	"gangway/cfa"
)

// TestP1304Usual: as behind a call.
func TestP1304Usual(t *testing.T) {
	if l := cfa.Usual(); !slices.Equal(l, ops(defCfa(7, 8), offset(16, -8))) {
		t.Error(l)
	}
	checkRows(t, cfa.Usual(), nil, 0, []cfa.Row{usualAt(0, 8)}, api.OK)
}

// TestP1305Example: the chapter's own.
func TestP1305Example(t *testing.T) {
	checkCompile(t, events(event(5, "offset", 3, -24), event(7, "adjust_cfa_offset", 8)), 10, ops(advance(5), offset(3, -24), advance(2), defOffset(16)), api.OK)
}

// TestP1305EachName: the op of each.
func TestP1305EachName(t *testing.T) {
	for _, c := range []struct {
		event cfa.Event
		want  cfa.Op
	}{
		{event(0, "def_cfa", 6, 24), defCfa(6, 24)},
		{event(0, "def_cfa_offset", 40), defOffset(40)},
		{event(0, "def_cfa_register", 6), defRegister(6)},
		{event(0, "offset", 3, -24), offset(3, -24)},
		{event(0, "offset", 16, 8), offset(16, 8)},
		{event(0, "rel_offset", 3, 0), offset(3, -8)},
		{event(0, "rel_offset", 3, -8), offset(3, -16)},
		{event(0, "rel_offset", 3, 24), offset(3, 16)},
		{event(0, "adjust_cfa_offset", 8), defOffset(16)},
		{event(0, "adjust_cfa_offset", -8), defOffset(0)},
		{event(0, "adjust_cfa_offset", 1), defOffset(9)},
		{event(0, "restore", 16), restore(16)},
		{event(0, "undefined", 0), undefined(0)},
		{event(0, "same_value", 12), sameValue(12)},
		{event(0, "remember_state"), remember()},
	} {
		checkCompile(t, events(c.event), 0, ops(c.want), api.OK)
		c.event.At = 3
		checkCompile(t, events(c.event), 3, ops(advance(3), c.want), api.OK)
	}
	checkCompile(t, events(event(1, "remember_state"), event(1, "restore_state")), 3, ops(advance(1), remember(), recall()), api.OK)
	checkCompile(t, nil, 3, nil, api.OK)
	checkCompile(t, events(), 0, nil, api.OK)
}

// TestP1305Places: an Advance ahead of an event that is farther on than the last one.
func TestP1305Places(t *testing.T) {
	l := events(
		event(0, "def_cfa_offset", 16), event(0, "offset", 6, -16), event(3, "undefined", 1), event(3, "undefined", 2), event(4, "undefined", 3), event(300, "undefined", 4),
	)
	want := ops(defOffset(16), offset(6, -16), advance(3), undefined(1), undefined(2), advance(1), undefined(3), advance(296), undefined(4))
	checkCompile(t, l, 300, want, api.OK)
	checkCompile(t, l, api.MaxBytes, want, api.OK)
	checkCompile(t, l, 299, nil, api.ErrCfa)
	checkCompile(t, events(event(api.MaxBytes, "undefined", 1)), api.MaxBytes, ops(advance(api.MaxBytes), undefined(1)), api.OK)
	checkCompile(t, events(event(20, "undefined", 1)), 20, ops(advance(20), undefined(1)), api.OK)
	for _, place := range []int{math.MinInt, -1, 21, math.MaxInt} {
		checkCompile(t, events(event(place, "undefined", 1)), 20, nil, api.ErrCfa)
		checkCompile(t, events(event(5, "undefined", 1), event(place, "undefined", 1)), 20, nil, api.ErrCfa)
		checkCompile(t, events(event(place, "undefined", 1), event(5, "undefined", 1)), 20, nil, api.ErrCfa)
	}
	checkCompile(t, events(event(5, "undefined", 1), event(4, "undefined", 1)), 20, nil, api.ErrCfa)
	checkCompile(t, events(event(5, "undefined", 1), event(0, "undefined", 1)), 20, nil, api.ErrCfa)
	checkCompile(t, events(event(1, "undefined", 1)), 0, nil, api.ErrCfa)
}

// TestP1305FramesN: rel_offset and adjust_cfa_offset go by the N that holds there, whoever told it.
func TestP1305FramesN(t *testing.T) {
	l := events(
		event(1, "adjust_cfa_offset", 8),
		event(1, "rel_offset", 6, 0),
		event(2, "remember_state"),
		event(3, "def_cfa", 6, 48),
		event(3, "rel_offset", 3, 8),
		event(4, "adjust_cfa_offset", -16),
		event(5, "def_cfa_offset", 64),
		event(5, "def_cfa_register", 7),
		event(5, "rel_offset", 12, -8),
		event(6, "restore_state"),
		event(6, "adjust_cfa_offset", 8),
		event(6, "rel_offset", 13, 8),
		event(6, "restore", 6),
		event(6, "rel_offset", 6, 0),
	)
	checkCompile(t, l, 6, ops(
		advance(1), defOffset(16), offset(6, -16),
		advance(1), remember(),
		advance(1), defCfa(6, 48), offset(3, -40),
		advance(1), defOffset(32),
		advance(1), defOffset(64), defRegister(7), offset(12, -72),
		advance(1), recall(), defOffset(24), offset(13, -16), restore(6), offset(6, -24),
	), api.OK)
}

// TestP1305Args: as many as are named, neither fewer nor more.
func TestP1305Args(t *testing.T) {
	few := []int{3, 8, 0, 0}
	for name, count := range map[string]int{
		"def_cfa": 2, "def_cfa_offset": 1, "def_cfa_register": 1, "offset": 2, "rel_offset": 2, "adjust_cfa_offset": 1,
		"restore": 1, "undefined": 1, "same_value": 1, "remember_state": 0, "restore_state": 0,
	} {
		for n := range 5 {
			l := events(event(0, "remember_state"), event(0, name, few[:n]...))
			if n == 1 && count == 1 && strings.HasSuffix(name, "offset") {
				l[1].Args = []int{8}
			}
			got, e := cfa.Compile(l, 0)
			if n == count && (e != api.OK || len(got) != 2) || n != count && (e != api.ErrCfa || len(got) != 0) {
				t.Error(name, n, got, e)
			}
		}
	}
}

// TestP1305Names: others are none.
func TestP1305Names(t *testing.T) {
	for _, name := range []string{
		"", "foo", "startproc", "endproc", "Offset", "offset ", ".cfi_offset", "cfi_offset", "def_cf", "def_cfa_", "remember", "recall", "nop", "advance", "val_offset", "window_save", "escape", "register", "\x00", strings.Repeat("offset", 100000),
	} {
		for _, args := range [][]int{nil, {3}, {3, 8}} {
			checkCompile(t, events(event(0, name, args...)), 10, nil, api.ErrCfa)
		}
	}
}

// TestP1305Refused: what Check refuses of the ops.
func TestP1305Refused(t *testing.T) {
	for _, l := range [][]cfa.Event{
		events(event(0, "restore_state")),
		events(event(0, "remember_state"), event(1, "restore_state"), event(2, "restore_state")),
		slices.Repeat(events(event(0, "remember_state")), 65),
		events(event(0, "offset", 3, -15)),
		events(event(0, "rel_offset", 3, 1)),
		events(event(0, "def_cfa_offset", 9), event(0, "rel_offset", 3, 0)),
		events(event(0, "def_cfa", 17, 8)),
		events(event(0, "def_cfa", -1, 8)),
		events(event(0, "def_cfa_register", 17)),
		events(event(0, "restore", -1)),
		events(event(0, "undefined", 17)),
		events(event(0, "same_value", -1)),
		events(event(0, "adjust_cfa_offset", -9)),
		events(event(0, "def_cfa_offset", most+1)),
		events(event(0, "def_cfa_offset", most), event(0, "adjust_cfa_offset", 1)),
		events(event(0, "def_cfa_offset", -1), event(0, "def_cfa_offset", 8)),
	} {
		checkCompile(t, l, 10, nil, api.ErrCfa)
	}
	checkCompile(t, slices.Repeat(events(event(0, "remember_state")), 64), 10, slices.Repeat(ops(remember()), 64), api.OK)
	checkCompile(t, events(event(0, "def_cfa_offset", 9), event(0, "rel_offset", 3, 1)), 10, ops(defOffset(9), offset(3, -8)), api.OK)
	checkCompile(t, events(event(0, "def_cfa_offset", most-1), event(0, "adjust_cfa_offset", 1)), 10, ops(defOffset(most-1), defOffset(most)), api.OK)
}

// TestP1305Sums: of numbers whose sum would wrap round into what may be.
func TestP1305Sums(t *testing.T) {
	for _, n := range []int{math.MinInt, math.MinInt + 1, math.MinInt + 8, math.MinInt + most, math.MaxInt, math.MaxInt - 7, math.MaxInt - 15, least - 1, 1 << 32} {
		checkCompile(t, events(event(0, "rel_offset", 3, n)), 10, nil, api.ErrCfa)
		checkCompile(t, events(event(0, "adjust_cfa_offset", n)), 10, nil, api.ErrCfa)
		checkCompile(t, events(event(0, "def_cfa_offset", most), event(0, "rel_offset", 3, n)), 10, nil, api.ErrCfa)
		checkCompile(t, events(event(0, "def_cfa_offset", most), event(0, "adjust_cfa_offset", n)), 10, nil, api.ErrCfa)
	}
	checkCompile(t, events(event(0, "rel_offset", 3, least+8)), 10, ops(offset(3, least)), api.OK)
	checkCompile(t, events(event(0, "rel_offset", 3, least)), 10, nil, api.ErrCfa)
	checkCompile(t, events(event(0, "rel_offset", 3, most+1)), 10, ops(offset(3, most-7)), api.OK)
	checkCompile(t, events(event(0, "rel_offset", 3, most+9)), 10, nil, api.ErrCfa)
}

// TestP1305Order: ErrRange, ErrSize of events, ErrCfa, ErrSize of ops.
func TestP1305Order(t *testing.T) {
	right := slices.Repeat(events(event(0, "undefined", 1)), api.MaxRows)
	tooMany := append(slices.Clone(right), event(0, "undefined", 1))
	wrong := events(event(0, "foo"))
	for _, size := range []int{math.MinInt, -1, api.MaxBytes + 1, math.MaxInt} {
		checkCompile(t, nil, size, nil, api.ErrRange)
		checkCompile(t, wrong, size, nil, api.ErrRange)
		checkCompile(t, tooMany, size, nil, api.ErrRange)
	}
	checkCompile(t, right, 0, slices.Repeat(ops(undefined(1)), api.MaxRows), api.OK)
	checkCompile(t, tooMany, 0, nil, api.ErrSize)
	checkCompile(t, append(wrong, tooMany...), 0, nil, api.ErrSize)
	checkCompile(t, append(slices.Clone(right[1:]), wrong...), 0, nil, api.ErrCfa)

	// Each event but the first one with an Advance: as many ops as may be with half as many events.
	var l []cfa.Event
	for k := range api.MaxRows / 2 {
		l = append(l, event(k+1, "undefined", 1))
	}
	got, e := cfa.Compile(l, api.MaxBytes)
	if e != api.OK || len(got) != api.MaxRows {
		t.Error(len(got), e)
	}
	last := api.MaxRows / 2
	checkCompile(t, append(slices.Clone(l), event(last, "undefined", 2)), api.MaxBytes, nil, api.ErrSize)
	checkCompile(t, append(events(event(0, "undefined", 2)), l...), api.MaxBytes, nil, api.ErrSize)
	for _, v := range events(event(last, "foo"), event(last, "restore_state"), event(last-1, "undefined", 1), event(last, "undefined", 17), event(api.MaxBytes+1, "undefined", 1), event(last, "undefined")) {
		checkCompile(t, append(slices.Clone(l), v), api.MaxBytes, nil, api.ErrCfa)
		checkCompile(t, append(slices.Clone(l), event(last+1, "undefined", 2), v), api.MaxBytes, nil, api.ErrCfa)
	}
}

// TestP1305TakenByCheck: what comes out has a table behind Usual; that of each place is what the events say there.
func TestP1305TakenByCheck(t *testing.T) {
	l := events(event(1, "def_cfa_offset", 16), event(1, "rel_offset", 6, 0), event(4, "def_cfa_register", 6))
	got, e := cfa.Compile(l, 20)
	if e != api.OK {
		t.Fatal(e)
	}
	second := saved(usualAt(1, 16), 6, -16)
	third := second
	third.At, third.R = 4, 6
	checkRows(t, cfa.Usual(), got, 20, []cfa.Row{usualAt(0, 8), second, third}, api.OK)
}
