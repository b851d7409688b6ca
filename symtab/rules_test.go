package symtab_test

import (
	"bytes"
	"math"
	"slices"
	"strings"
	"testing"

	"gangway/api"
	"gangway/symtab"
)

func wild() []int {
	return []int{math.MinInt, math.MinInt + 1, -1 << 32, -256, -25, -24, -1, 0, 1, 2, 3, 5, 23, 24, 25, 47, 48, 49, 255, 256, 65521, 1 << 31, 1 << 32, most, most + 1, math.MaxInt - 1, math.MaxInt}
}

func wildNames() []string {
	return []string{"", "*", "\x00", "a", "a\x00", "\xff", long(255), long(256), long(70000), strings.Repeat("\x00", 300)}
}

// TestP1NothingPanics: each field made wild; with an error nothing else is answered.
func TestP1NothingPanics(t *testing.T) {
	for _, n := range wild() {
		for _, name := range wildNames() {
			for _, section := range wildNames() {
				for _, s := range []api.Symbol{symbol(name, section, n, n, n, n), symbol(name, section, 0, 0, n, n), symbol(name, section, n, 0, 1, 0), symbol(name, section, 0, n, 0, 1)} {
					for _, sections := range [][]string{nil, {section}, {name, section}, wildNames()} {
						l := []api.Symbol{s, s}
						checkAnswer(t, l, sections, modelCheck(l, sections))
						checkAnswer(t, l[:1], sections, modelCheck(l[:1], sections))
					}
				}
			}
		}
	}
	for _, name := range wildNames() {
		symtab.Hash(name)
		symtab.Gnu(name)
	}
}

// TestP1NothingPanicsOfBytes: rows of all kinds of bytes.
func TestP1NothingPanicsOfBytes(t *testing.T) {
	var rows [][]byte
	for _, n := range []int{0, 1, 2, 4, 7, 23, 24, 25, 47, 48, 49, 72, 96, 1000} {
		for _, c := range []byte{0, 1, 2, 16, 127, 128, 255} {
			rows = append(rows, bytes.Repeat([]byte{c}, n), append(make([]byte, 24), bytes.Repeat([]byte{c}, n)...))
		}
	}
	for _, syms := range rows {
		for _, strs := range rows {
			for _, first := range []int{math.MinInt, -1, 0, 1, 2, 3, math.MaxInt} {
				w := written{syms, strs, first}
				want, e := modelRead(w, []string{"a", "b"})
				checkRead(t, w, []string{"a", "b"}, want, e)
			}
		}
	}
	for _, b := range rows {
		for _, at := range wild() {
			name, e := symtab.At(b, at)
			if isThere := at >= 0 && at < len(b); (e == api.ErrRange) == isThere || e != api.OK && name != "" {
				t.Fatalf("At(% x, %d): %q, %d", b, at, name, e)
			}
		}
	}
}

// TestP1MuchEnds: lists and bytes far beyond the limits.
func TestP1MuchEnds(t *testing.T) {
	const many = 1 << 20
	b, at, e := symtab.Strings(slices.Repeat([]string{"a", "", "b"}, many))
	if string(b) != "\x00a\x00b\x00" || len(at) != 3*many || at[3*many-1] != 3 || e != api.OK {
		t.Errorf("%q, %d places, %d", b, len(at), e)
	}
	if b, at, e := symtab.Strings(numbered(many)); len(b) != 0 || len(at) != 0 || e != api.ErrSize {
		t.Errorf("%d bytes, %d places, %d", len(b), len(at), e)
	}
	checkAnswer(t, make([]api.Symbol, many), nil, api.ErrSize)
	checkAnswer(t, nil, make([]string, many), api.ErrSize)
	// As many entries as bytes may be, each with a name of which the end is far.
	far := append(bytes.Repeat([]byte{'n'}, api.MaxBytes-1), 0)
	for _, name := range []int{0, 1, api.MaxBytes - 256, api.MaxBytes - 1} {
		refused(t, written{entries(slices.Repeat([][3]int{{name, 0, 65521}}, api.MaxBytes/entry-1)...), far, 1}, nil)
	}
}

// TestP1NilAndEmpty: they mean the same.
func TestP1NilAndEmpty(t *testing.T) {
	checkStrings(t, nil, "\x00", nil, api.OK)
	checkStrings(t, []string{}, "\x00", nil, api.OK)
	for _, b := range [][]byte{nil, {}} {
		if s, e := symtab.At(b, 0); s != "" || e != api.ErrRange {
			t.Error(s, e)
		}
	}
	for _, l := range [][]api.Symbol{nil, {}} {
		for _, sections := range [][]string{nil, {}} {
			checkAnswer(t, l, sections, api.OK)
			checkRead(t, write(t, l, sections), sections, nil, api.OK)
		}
	}
}

// scratch: overwrites all that an answer has, and the room behind it.
func scratch[T any](l []T, with T) {
	for k := range l[:cap(l)] {
		l[:cap(l)][k] = with
	}
}

// TestP1AnswersAreNew: what is done with an answer is to be seen in no other one, nor in another part of it.
func TestP1AnswersAreNew(t *testing.T) {
	names := []string{"a", "", "b", "a"}
	b, at, _ := symtab.Strings(names)
	other, places, _ := symtab.Strings(names)
	scratch(b, 255)
	if !slices.Equal(at, []int{1, 0, 3, 1}) {
		t.Error(at)
	}
	scratch(at, -1)
	if string(other) != "\x00a\x00b\x00" || !slices.Equal(places, []int{1, 0, 3, 1}) {
		t.Error(other, places)
	}
	checkStrings(t, names, "\x00a\x00b\x00", []int{1, 0, 3, 1}, api.OK)

	l, sections := some()
	w, again := write(t, l, sections), write(t, l, sections)
	strs := bytes.Clone(w.strs)
	scratch(w.syms, 255)
	if !bytes.Equal(w.strs, strs) {
		t.Errorf("%q", w.strs)
	}
	scratch(w.strs, 255)
	if !again.is(modelWrite(l, sections)) || !write(t, l, sections).is(again) {
		t.Error(again)
	}
	got := read(t, again, sections)
	scratch(got, api.Symbol{Name: "z"})
	checkRead(t, again, sections, l, api.OK)
}

// TestP1AnswersStay: what was answered does not change when what was handed in is changed afterwards.
func TestP1AnswersStay(t *testing.T) {
	l, sections := some()
	want, _ := some()
	w := write(t, l, sections)
	kept := w.copied()
	got := read(t, w, sections)
	name, _ := symtab.At(w.strs, 1)
	scratch(w.syms, 7)
	scratch(w.strs, 'q')
	scratch(sections, "q")
	if !slices.Equal(got, want) || name != "x" {
		t.Errorf("%v, %q", got, name)
	}
	_, sections = some()
	w = write(t, l, sections)
	scratch(l, api.Symbol{})
	scratch(sections, "q")
	if !w.is(kept) {
		t.Error(w)
	}
}

// TestP1ArgumentsStay: neither what is handed in nor the room behind it is changed, nor is that room read.
func TestP1ArgumentsStay(t *testing.T) {
	roomy := append([]string{"b", "a", "", "b", "c"}, "\x00", "z")
	names := slices.Clone(roomy)
	checkStrings(t, names[:5], "\x00b\x00a\x00c\x00", []int{1, 3, 0, 1, 5}, api.OK)
	if !slices.Equal(names, roomy) {
		t.Errorf("%q", names)
	}

	l, sections := some()
	slices.Reverse(l)
	l = append(l, api.Symbol{Name: "\x00", Bind: -1}, api.Symbol{})
	sections = append(sections, "", "*")
	symbols, places := slices.Clone(l), slices.Clone(sections)
	w := write(t, symbols[:7], places[:2])
	if !slices.Equal(symbols, l) || !slices.Equal(places, sections) {
		t.Errorf("%v, %q", symbols, places)
	}
	roomySyms, roomyStrs := append(bytes.Clone(w.syms), "behind"...), append(bytes.Clone(w.strs), "behind\x00"...)
	syms, strs := bytes.Clone(roomySyms), bytes.Clone(roomyStrs)
	sorted, _ := modelSorted(l[:7])
	checkRead(t, written{syms[:len(w.syms)], strs[:len(w.strs)], w.first}, places[:2], sorted, api.OK)
	refused(t, written{syms[:len(w.syms)], strs[:len(w.strs)-1], w.first}, places[:2])
	if _, e := symtab.At(strs[:len(w.strs)-1], len(w.strs)-2); e != api.ErrEnd {
		t.Error(e)
	}
	if !bytes.Equal(syms, roomySyms) || !bytes.Equal(strs, roomyStrs) || !slices.Equal(places, sections) {
		t.Errorf("% x, %q, %q", syms, strs, places)
	}
}

// TestP1TheSameAgain: what is answered hangs on nothing else, many times and side by side.
func TestP1TheSameAgain(t *testing.T) {
	l, sections := some()
	want := modelWrite(l, sections)
	done := make(chan bool)
	for range 8 {
		go func() {
			same := true
			for range 200 {
				syms, strs, first, e := symtab.Write(l, sections)
				got, f := symtab.Read(want.syms, want.strs, want.first, sections)
				same = same && e == api.OK && f == api.OK && want.is(written{syms, strs, first}) && slices.Equal(got, l)
			}
			done <- same
		}()
	}
	for range 8 {
		if !<-done {
			t.Error("not the same again")
		}
	}
}
