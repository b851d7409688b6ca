package symtab_test

import (
	"slices"
	"testing"

	"gangway/api"
)

// none: the entry that is no symbol's; zeros: a number of eight bytes.
const (
	zeros = "\x00\x00\x00\x00\x00\x00\x00\x00"
	none  = zeros + zeros + zeros
)

func checkWrite(t *testing.T, l []api.Symbol, sections []string, want written) {
	t.Helper()
	if got := write(t, l, sections); !got.is(want) {
		t.Fatalf("Write(%s, %s): %s; want %s", short(l), short(sections), got, want)
	}
}

func TestP804Example(t *testing.T) {
	x := api.Symbol{Name: "x", Section: ".text", Value: 5}
	y := of("y", "", api.Global)
	want := written{joined(
		none,
		"\x01\x00\x00\x00", "\x00", "\x00", "\x01\x00", "\x05\x00\x00\x00\x00\x00\x00\x00", zeros,
		"\x03\x00\x00\x00", "\x10", "\x00", "\x00\x00", zeros, zeros,
	), []byte("\x00x\x00y\x00"), 2}
	checkWrite(t, []api.Symbol{x, y}, []string{".text"}, want)
	checkWrite(t, []api.Symbol{y, x}, []string{".text"}, want)
}

// TestP804Fields: each of an entry's fields by hand, with bytes that are all unlike.
func TestP804Fields(t *testing.T) {
	s := api.Symbol{Name: "name", Section: ".data", Value: 0x0123456789abcdef, Size: 0x3edcba9876543210, Bind: api.Weak, Type: api.Ifunc}
	checkWrite(t, []api.Symbol{s}, []string{".text", ".data"}, written{joined(
		none,
		"\x01\x00\x00\x00", "\x2a", "\x00", "\x02\x00", "\xef\xcd\xab\x89\x67\x45\x23\x01", "\x10\x32\x54\x76\x98\xba\xdc\x3e",
	), []byte("\x00name\x00"), 1})
	s = api.Symbol{Name: "n", Section: "*", Value: most, Size: most, Type: api.Object}
	checkWrite(t, []api.Symbol{s}, nil, written{joined(
		none,
		"\x01\x00\x00\x00", "\x01", "\x00", "\xf1\xff", "\x00\x00\x00\x00\x00\x00\x00\x40", "\x00\x00\x00\x00\x00\x00\x00\x40",
	), []byte("\x00n\x00"), 2})
	s = api.Symbol{Section: "s63", Value: 255, Size: 256, Type: api.Tls}
	checkWrite(t, []api.Symbol{s}, numbered(64), written{joined(
		none,
		"\x00\x00\x00\x00", "\x06", "\x00", "\x40\x00", "\xff\x00\x00\x00\x00\x00\x00\x00", "\x00\x01\x00\x00\x00\x00\x00\x00",
	), []byte("\x00"), 2})
}

func TestP804BindingsAndTypes(t *testing.T) {
	for _, c := range []struct {
		bind, kind int
		want       byte
	}{
		{api.Local, api.NoType, 0}, {api.Local, api.Object, 1}, {api.Local, api.Func, 2}, {api.Local, api.Tls, 6}, {api.Local, api.Ifunc, 10},
		{api.Global, api.NoType, 16}, {api.Global, api.Object, 17}, {api.Global, api.Func, 18}, {api.Global, api.Tls, 22}, {api.Global, api.Ifunc, 26},
		{api.Weak, api.NoType, 32}, {api.Weak, api.Object, 33}, {api.Weak, api.Func, 34}, {api.Weak, api.Tls, 38}, {api.Weak, api.Ifunc, 42},
	} {
		w := write(t, []api.Symbol{{Name: "a", Section: "*", Bind: c.bind, Type: c.kind}}, nil)
		if w.syms[entry+4] != c.want {
			t.Errorf("%d, %d: %d; want %d", c.bind, c.kind, w.syms[entry+4], c.want)
		}
	}
}

func TestP804SectionNumbers(t *testing.T) {
	sections := numbered(64)
	for k, name := range sections {
		w := write(t, []api.Symbol{of("a", name, api.Global)}, sections)
		if got := int(w.syms[entry+6]) + 256*int(w.syms[entry+7]); got != k+1 {
			t.Errorf("%s: %d; want %d", name, got, k+1)
		}
	}
}

func TestP804First(t *testing.T) {
	checkWrite(t, nil, nil, written{[]byte(none), []byte{0}, 1})
	checkWrite(t, []api.Symbol{}, []string{".text"}, written{[]byte(none), []byte{0}, 1})
	l := locals(300)
	if w := write(t, l, nil); w.first != 301 || len(w.syms) != 301*entry {
		t.Error(w.first)
	}
	for k := range l {
		l[k].Bind = 1 + k%2
	}
	if w := write(t, l, nil); w.first != 1 || len(w.syms) != 301*entry {
		t.Error(w.first)
	}
	l[17].Bind, l[217].Bind = api.Local, api.Local
	if w := write(t, l, nil); w.first != 3 {
		t.Error(w.first)
	}
}

// TestP804Order: Local ones first, else as they were; the names are in the table in that order, too, and a name that two have stands there once.
func TestP804Order(t *testing.T) {
	l := []api.Symbol{of("g", "", api.Global), of("b", "*", api.Local), of("w", "*", api.Weak), of("", "*", api.Local), of("a", "*", api.Local), of("b", "*", api.Global), of("w", "*", api.Local)}
	entries := func(at, bind, section string) string {
		return at + "\x00\x00\x00" + bind + "\x00" + section + zeros + zeros
	}
	checkWrite(t, l, nil, written{joined(
		none,
		entries("\x01", "\x00", "\xf1\xff"), entries("\x00", "\x00", "\xf1\xff"), entries("\x03", "\x00", "\xf1\xff"), entries("\x05", "\x00", "\xf1\xff"),
		entries("\x07", "\x10", "\x00\x00"), entries("\x05", "\x20", "\xf1\xff"), entries("\x01", "\x10", "\xf1\xff"),
	), []byte("\x00b\x00a\x00w\x00g\x00"), 5})
}

// TestP804Most: as many symbols as may be, with names as long as may be: a name begins past 65536.
func TestP804Most(t *testing.T) {
	var l []api.Symbol
	sections := numbered(64)
	for k := range 2000 {
		l = append(l, api.Symbol{Name: longer(255, k), Section: sections[k%64], Value: k, Size: 3 * k, Bind: k % 3, Type: kinds()[k%5]})
	}
	w := write(t, l, sections)
	if !w.is(modelWrite(l, sections)) || len(w.strs) != 1+2000*256 || len(w.syms) != 2001*entry || w.first != 668 {
		t.Errorf("%d bytes, %d bytes, %d", len(w.syms), len(w.strs), w.first)
	}
}

func TestP804Lists(t *testing.T) {
	sections := []string{".text", ".data", ".bss"}
	eachList(func(l []api.Symbol) {
		if modelCheck(l, sections) == api.OK {
			checkWrite(t, l, sections, modelWrite(l, sections))
		}
	})
}

// TestP809LocalsFirst: all rows of bindings.
func TestP809LocalsFirst(t *testing.T) {
	for _, row := range lists([]string{"\x00", "\x01", "\x02"}, 7) {
		var l []api.Symbol
		for k, bind := range row {
			l = append(l, of(string(rune('a'+k)), "*", int(bind[0])))
		}
		w := write(t, l, nil)
		if w.first < 1 || w.first > 1+len(l) || len(w.syms) != entry*(1+len(l)) {
			t.Fatalf("%q: %d", row, w.first)
		}
		for k := 1; k <= len(l); k++ {
			if isLocal := w.syms[k*entry+4]>>4 == 0; isLocal != (k < w.first) {
				t.Fatalf("%q: %s", row, w)
			}
		}
	}
}

// TestP809OfRead: of the symbols that Read answers, too.
func TestP809OfRead(t *testing.T) {
	sections := []string{".text", ".data", ".bss"}
	eachList(func(l []api.Symbol) {
		if modelCheck(l, sections) != api.OK {
			return
		}
		w := write(t, l, sections)
		got := read(t, w, sections)
		at := slices.IndexFunc(got, func(s api.Symbol) bool { return s.Bind != api.Local })
		if at < 0 {
			at = len(got)
		}
		if at+1 != w.first || slices.ContainsFunc(got[at:], func(s api.Symbol) bool { return s.Bind == api.Local }) {
			t.Fatalf("%s: %s, %d", short(l), short(got), w.first)
		}
	})
}
