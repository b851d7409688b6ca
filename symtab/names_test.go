package symtab_test

import (
	"bytes"
	"math"
	"slices"
	"strings"
	"testing"

	"gangway/api"
	"gangway/symtab"
)

func TestP801Tables(t *testing.T) {
	for _, c := range []struct {
		l  []string
		b  string
		at []int
	}{
		{nil, "\x00", nil},
		{[]string{}, "\x00", nil},
		{[]string{""}, "\x00", []int{0}},
		{[]string{"", "", ""}, "\x00", []int{0, 0, 0}},
		{[]string{"a"}, "\x00a\x00", []int{1}},
		{[]string{"a", "", "b", "a"}, "\x00a\x00b\x00", []int{1, 0, 3, 1}},
		{[]string{"b", "a"}, "\x00b\x00a\x00", []int{1, 3}},
		{[]string{"x", "x", "x"}, "\x00x\x00", []int{1, 1, 1}},
		{[]string{"", "main", "", "f", "main"}, "\x00main\x00f\x00", []int{0, 1, 0, 6, 1}},
		{[]string{"abc", "bc", "c"}, "\x00abc\x00bc\x00c\x00", []int{1, 5, 8}},
		{[]string{"c", "bc", "abc"}, "\x00c\x00bc\x00abc\x00", []int{1, 3, 6}},
		{[]string{"abc", "ab", "a"}, "\x00abc\x00ab\x00a\x00", []int{1, 5, 8}},
		{[]string{"a", "A", " a", "a "}, "\x00a\x00A\x00 a\x00a \x00", []int{1, 3, 5, 8}},
		{[]string{"*", ".text", "\n", "\x01"}, "\x00*\x00.text\x00\n\x00\x01\x00", []int{1, 3, 9, 11}},
		{[]string{"\xff", "\xc3\xa4", "\xff\xfe", "\xff"}, "\x00\xff\x00\xc3\xa4\x00\xff\xfe\x00", []int{1, 3, 6, 1}},
	} {
		checkStrings(t, c.l, c.b, c.at, api.OK)
	}
}

func TestP801AByteZero(t *testing.T) {
	for _, bad := range []string{"\x00", "a\x00", "\x00a", "a\x00b", "\x00\x00", long(254) + "\x00"} {
		for _, l := range [][]string{{bad}, {"a", bad}, {bad, "a"}, {"", bad, "a"}, {bad, bad}} {
			checkStrings(t, l, "", nil, api.ErrSymbol)
		}
	}
}

func TestP801MaxName(t *testing.T) {
	checkStrings(t, []string{long(255)}, "\x00"+long(255)+"\x00", []int{1}, api.OK)
	checkStrings(t, []string{"a", long(254), long(255)}, "\x00a\x00"+long(254)+"\x00"+long(255)+"\x00", []int{1, 3, 258}, api.OK)
	for _, n := range []int{256, 257, 1000, api.MaxBytes} {
		for _, l := range [][]string{{long(n)}, {"a", long(n)}, {long(n), ""}, {"a", long(n), long(n), "b"}} {
			checkStrings(t, l, "", nil, api.ErrSize)
		}
	}
}

// full: names of which the table has just MaxBytes bytes.
func full() []string {
	var l []string
	for k := range 4095 {
		l = append(l, longer(255, k))
	}
	return append(l, long(254))
}

func TestP801MaxBytes(t *testing.T) {
	l := full()
	b := "\x00" + strings.Join(l, "\x00") + "\x00"
	if len(b) != api.MaxBytes {
		t.Fatal(len(b))
	}
	var at []int
	for k := range l {
		at = append(at, 1+256*k)
	}
	checkStrings(t, l, b, at, api.OK)
	// What stands there already takes no room.
	checkStrings(t, append(slices.Clone(l), l[7], "", l[4095]), b, append(slices.Clone(at), at[7], 0, at[4095]), api.OK)
	checkStrings(t, append([]string{""}, l...), b, append([]int{0}, at...), api.OK)
	for _, more := range [][]string{
		append(slices.Clone(l[:4095]), long(255)),
		append(slices.Clone(l), "a"),
		append([]string{"a"}, l...),
		append(slices.Clone(l), "a", l[0], "", l[1]),
	} {
		checkStrings(t, more, "", nil, api.ErrSize)
	}
}

func TestP801ErrorsInOrder(t *testing.T) {
	for _, l := range [][]string{
		{long(256), "\x00"},
		{"\x00", long(256)},
		{long(256) + "\x00"},
		{"\x00" + long(256)},
		{long(255) + "\x00"},
		append(full(), "a", "b\x00"),
		append([]string{"b\x00"}, append(full(), "a")...),
	} {
		checkStrings(t, l, "", nil, api.ErrSymbol)
	}
}

func TestP802At(t *testing.T) {
	table := "\x00a\x00b\x00"
	for at, name := range []string{"", "a", "", "b", ""} {
		checkAt(t, table, at, name, api.OK)
	}
	for _, c := range []struct {
		b    string
		at   int
		name string
	}{
		{"\x00", 0, ""},
		{"abc\x00", 0, "abc"},
		{"abc\x00", 1, "bc"},
		{"abc\x00", 2, "c"},
		{"abc\x00", 3, ""},
		{"\x00\x00\x00", 1, ""},
		{"\xff\xfe\xc3\x00x", 0, "\xff\xfe\xc3"},
		{"ab\x00cd", 1, "b"},
		{long(255) + "\x00", 0, long(255)},
		{long(256) + "\x00", 1, long(255)},
		{long(api.MaxBytes) + "\x00", api.MaxBytes - 255, long(255)},
		{strings.Repeat("\x00", 2*api.MaxBytes) + "a\x00", 2 * api.MaxBytes, "a"},
	} {
		checkAt(t, c.b, c.at, c.name, api.OK)
	}
}

func TestP802Errors(t *testing.T) {
	for _, b := range []string{"", "\x00", "a", "\x00a\x00b\x00", long(300), long(300) + "\x00"} {
		for _, at := range []int{math.MinInt, -len(b) - 1, -len(b) - 2, -2, -1, len(b), len(b) + 1, math.MaxInt} {
			checkAt(t, b, at, "", api.ErrRange)
		}
	}
	for _, c := range []struct {
		b  string
		at int
		e  api.Errno
	}{
		{"a", 0, api.ErrEnd},
		{"ab", 0, api.ErrEnd},
		{"ab", 1, api.ErrEnd},
		{"\x00a\x00b", 3, api.ErrEnd},
		{"\x00", 1, api.ErrRange},
		{long(255), 0, api.ErrEnd},
		{long(256), 0, api.ErrEnd},
		{"\x00" + long(1000), 1, api.ErrEnd},
		{long(256) + "\x00", 0, api.ErrSize},
		{"\x00" + long(256) + "\x00", 1, api.ErrSize},
		{long(1000) + "\x00", 744, api.ErrSize},
		{long(1000) + "\x00", 745, api.OK},
		{long(2*api.MaxBytes) + "\x00", 0, api.ErrSize},
	} {
		name := ""
		if c.e == api.OK {
			name = long(255)
		}
		checkAt(t, c.b, c.at, name, c.e)
	}
}

// lists: all lists of up to so many of these names.
func lists(names []string, most int) [][]string {
	all := [][]string{nil}
	for from := 0; most > 0; most-- {
		end := len(all)
		for _, l := range all[from:end] {
			for _, name := range names {
				all = append(all, append(slices.Clone(l), name))
			}
		}
		from = end
	}
	return all
}

// checkOnce: how many bytes the table has, and that it tells each name.
func checkOnce(t *testing.T, l []string) {
	t.Helper()
	b, at, e := symtab.Strings(l)
	if e != api.OK || len(at) != len(l) {
		t.Fatalf("Strings(%s): %s, %d", short(l), short(at), e)
	}
	room := 1
	for _, name := range slices.Compact(slices.Sorted(slices.Values(l))) {
		if name != "" {
			room += len(name) + 1
		}
	}
	if len(b) != room {
		t.Fatalf("Strings(%s): %s; want %d bytes", short(l), short(string(b)), room)
	}
	for k, name := range l {
		if got, e := symtab.At(b, at[k]); got != name || e != api.OK {
			t.Fatalf("Strings(%s): %s, %s; At(%d): %s, %d", short(l), short(string(b)), short(at), at[k], short(got), e)
		}
	}
}

func TestP808EachNameOnce(t *testing.T) {
	for _, l := range lists([]string{"", "a", "b", "ab", "ba", "aba", "\xff"}, 5) {
		checkOnce(t, l)
	}
	checkOnce(t, full())
	checkOnce(t, numbered(5000))
}

// TestP808InOrder: the names that are told first stand first.
func TestP808InOrder(t *testing.T) {
	for _, l := range lists([]string{"", "a", "b", "ab", "ba"}, 5) {
		b, at, _ := symtab.Strings(l)
		end := 1
		for k, name := range l {
			if name == "" || at[k] < end {
				continue
			}
			if at[k] != end || !bytes.HasPrefix(b[end:], []byte(name+"\x00")) {
				t.Fatalf("Strings(%q): %q, %v", l, b, at)
			}
			end += len(name) + 1
		}
	}
}
