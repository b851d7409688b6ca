package symtab_test

import (
	"bytes"
	"fmt"
	"math"
	"slices"
	"testing"

	"gangway/api"
	"gangway/symtab"
)

func read(t *testing.T, w written, sections []string) []api.Symbol {
	t.Helper()
	l, e := symtab.Read(w.syms, w.strs, w.first, sections)
	if e != api.OK {
		t.Fatalf("Read(%s, %s): %d", w, short(sections), e)
	}
	return l
}

// some: symbols with each field of its own, as they are written; and their sections.
func some() ([]api.Symbol, []string) {
	return []api.Symbol{
		symbol("", ".text", 0, 0, api.Local, api.NoType),
		symbol("x", ".data", 513, 70000, api.Local, api.Object),
		symbol("loop", "*", most, 1, api.Local, api.Ifunc),
		symbol("", ".text", 1, most, api.Local, api.Tls),
		symbol("x", ".text", 5, 0, api.Global, api.Func),
		symbol("ndef", "", 0, 0, api.Weak, api.NoType),
		symbol("undef", "", 0, 0, api.Global, api.Tls),
	}, []string{".text", ".data"}
}

// entries: of these, without their table: name, binding and type, section; Value and Size are 0.
func entries(l ...[3]int) []byte {
	b := []byte(none)
	for _, f := range l {
		b = append(b, byte(f[0]), byte(f[0]>>8), byte(f[0]>>16), byte(f[0]>>24), byte(f[1]), 0, byte(f[2]), byte(f[2]>>8))
		b = append(b, make([]byte, 16)...)
	}
	return b
}

func TestP805Example(t *testing.T) {
	syms := joined(
		none,
		"\x01\x00\x00\x00", "\x00", "\x00", "\x01\x00", "\x05\x00\x00\x00\x00\x00\x00\x00", zeros,
		"\x03\x00\x00\x00", "\x10", "\x00", "\x00\x00", zeros, zeros,
	)
	w := written{syms, []byte("\x00x\x00y\x00"), 2}
	checkRead(t, w, []string{".text"}, []api.Symbol{{Name: "x", Section: ".text", Value: 5}, of("y", "", api.Global)}, api.OK)
	checkRead(t, written{[]byte(none), []byte{0}, 1}, nil, nil, api.OK)
	checkRead(t, written{[]byte(none), []byte{0}, 1}, numbered(64), nil, api.OK)
	s := joined(none, "\x01\x00\x00\x00", "\x2a", "\x00", "\xf1\xff", "\xef\xcd\xab\x89\x67\x45\x23\x01", "\x10\x32\x54\x76\x98\xba\xdc\x3e")
	checkRead(t, written{s, []byte("\x00name\x00"), 1}, nil, []api.Symbol{symbol("name", "*", 0x0123456789abcdef, 0x3edcba9876543210, api.Weak, api.Ifunc)}, api.OK)
}

func TestP805MaxBytes(t *testing.T) {
	l, sections := some()
	w := write(t, l, sections)
	for _, first := range []int{w.first, w.first + 1, -1} {
		for _, names := range [][]string{sections, nil, {""}} {
			for n, want := range map[int]api.Errno{api.MaxBytes - 16: api.ErrSymbol, api.MaxBytes: api.ErrSymbol, api.MaxBytes + 1: api.ErrSize, 3 * api.MaxBytes: api.ErrSize} {
				much := make([]byte, n)
				checkRead(t, written{much, w.strs, first}, names, nil, want)
				checkRead(t, written{w.syms, much, first}, names, nil, want)
				checkRead(t, written{much, much, first}, names, nil, want)
				checkRead(t, written{much, nil, first}, names, nil, want)
				checkRead(t, written{nil, much, first}, names, nil, want)
				copy(much, w.strs)
				checkRead(t, written{w.syms, much, first}, names, nil, want)
				copy(much, w.syms)
				checkRead(t, written{much, w.strs, first}, names, nil, want)
			}
		}
	}
}

// TestP805EachByte: each byte as each other one. What another symbol's bytes are is read as that; all else is refused.
func TestP805EachByte(t *testing.T) {
	l, sections := some()
	w := write(t, l, sections)
	right := 0
	for _, part := range []func(*written) []byte{func(w *written) []byte { return w.syms }, func(w *written) []byte { return w.strs }} {
		for k := range part(&w) {
			for turned := 1; turned < 256; turned++ {
				other := w.copied()
				part(&other)[k] ^= byte(turned)
				want, e := modelRead(other, sections)
				checkRead(t, other, sections, want, e)
				if e == api.OK {
					right++
				}
			}
		}
	}
	if right == 0 {
		t.Error("no other symbols")
	}
}

// TestP805EachField: one byte of each field by hand: in the second entry, and in the table of names.
func TestP805EachField(t *testing.T) {
	l := []api.Symbol{symbol("x", ".text", 5, 6, api.Local, api.Func), symbol("y", ".text", 7, 8, api.Global, api.Object)}
	sections := []string{".text", ".data"}
	w := write(t, l, sections)
	for _, c := range []struct {
		at    int
		value byte
		want  api.Symbol
	}{
		{4, 1, api.Symbol{Name: "x", Section: ".text", Value: 5, Size: 6, Type: api.Object}},
		{6, 2, api.Symbol{Name: "x", Section: ".data", Value: 5, Size: 6, Type: api.Func}},
		{8, 9, api.Symbol{Name: "x", Section: ".text", Value: 9, Size: 6, Type: api.Func}},
		{15, 1, api.Symbol{Name: "x", Section: ".text", Value: 5 + 1<<56, Size: 6, Type: api.Func}},
		{16, 9, api.Symbol{Name: "x", Section: ".text", Value: 5, Size: 9, Type: api.Func}},
		{23, 63, api.Symbol{Name: "x", Section: ".text", Value: 5, Size: 6 + 63<<56, Type: api.Func}},
	} {
		other := w.copied()
		other.syms[entry+c.at] = c.value
		checkRead(t, other, sections, []api.Symbol{c.want, l[1]}, api.OK)
	}
	for _, c := range []struct {
		at    int
		value byte
	}{
		{0, 1}, {3, 128}, {4, 1}, {5, 1}, {6, 1}, {8, 1}, {16, 1}, {23, 1}, // of the first entry
		{24, 0}, {24, 2}, {24, 3}, {24, 5}, {24, 200}, {25, 1}, {26, 1}, {27, 1}, {27, 255}, // where the name begins
		{28, 3}, {28, 4}, {28, 0x12}, {28, 0x22}, {28, 0x32}, {28, 0xf2}, // binding and type
		{29, 1}, {29, 2}, {29, 255}, // what is 0
		{30, 0}, {30, 3}, {30, 64}, {30, 0xf1}, {31, 1}, {31, 255}, // the section
		{39, 64}, {39, 65}, {39, 128}, {39, 255}, // Value: 2^62 and 5, and more
		{47, 64}, {47, 128}, {47, 255}, // Size
		{48, 1}, {52, 1}, {52, 2}, {53, 1}, // of the third entry
	} {
		other := w.copied()
		other.syms[c.at] = c.value
		refused(t, other, sections)
	}
	for at, value := range []byte{'z', 0, 'z', 0, 'z'} {
		other := w.copied()
		other.strs[at] = value
		refused(t, other, sections)
	}
	w.strs[1] = 'z'
	checkRead(t, w, sections, []api.Symbol{symbol("z", ".text", 5, 6, api.Local, api.Func), l[1]}, api.OK)
	w.strs[1] = 'y' // a name that stands there twice
	refused(t, w, sections)
}

func TestP805LessAndMore(t *testing.T) {
	l, sections := some()
	w := write(t, l, sections)
	for n := range len(w.syms) {
		refused(t, written{w.syms[:n], w.strs, w.first}, sections)
		refused(t, written{w.syms[n+1:], w.strs, w.first}, sections)
	}
	for n := range len(w.strs) {
		refused(t, written{w.syms, w.strs[:n], w.first}, sections)
		refused(t, written{w.syms, w.strs[n+1:], w.first}, sections)
	}
	for _, x := range []byte{0, 1, 'a', 255} {
		refused(t, written{append(bytes.Clone(w.syms), x), w.strs, w.first}, sections)
		refused(t, written{append([]byte{x}, w.syms...), w.strs, w.first}, sections)
		refused(t, written{w.syms, append(bytes.Clone(w.strs), x), w.first}, sections)
		refused(t, written{w.syms, append([]byte{x}, w.strs...), w.first}, sections)
		refused(t, written{[]byte(none), []byte{0, x}, 1}, nil)
		refused(t, written{append([]byte(none), x), []byte{0}, 1}, nil)
	}
	refused(t, written{append(bytes.Clone(w.syms), none...), w.strs, w.first}, sections)
	refused(t, written{append([]byte(none), w.syms...), w.strs, w.first}, sections)
	refused(t, written{w.syms, append(bytes.Clone(w.strs), "a\x00"...), w.first}, sections)
	for _, nothing := range [][]byte{nil, {}} {
		refused(t, written{nothing, nothing, 0}, nil)
		refused(t, written{nothing, nothing, 1}, nil)
		refused(t, written{nothing, []byte{0}, 0}, nil)
		refused(t, written{nothing, []byte{0}, 1}, nil)
		refused(t, written{[]byte(none), nothing, 1}, nil)
		refused(t, written{[]byte(none)[1:], []byte{0}, 1}, nil)
	}
}

// TestP805First: every other one is refused.
func TestP805First(t *testing.T) {
	l, sections := some()
	for _, l := range [][]api.Symbol{nil, l, l[:4], l[4:]} {
		w := write(t, l, sections)
		checkRead(t, w, sections, l, api.OK)
		for _, off := range []int{1, 2, 3, 1 << 8, 1 << 16, 1 << 32, math.MaxInt - w.first} {
			refused(t, written{w.syms, w.strs, w.first + off}, sections)
			refused(t, written{w.syms, w.strs, w.first - off}, sections)
		}
		refused(t, written{w.syms, w.strs, math.MinInt}, sections)
		refused(t, written{w.syms, w.strs, -w.first}, sections)
	}
}

func TestP805Order(t *testing.T) {
	sections := []string{".text"}
	for first := range 4 {
		refused(t, written{entries([3]int{1, 16, 1}, [3]int{3, 0, 1}), []byte("\x00g\x00l\x00"), first}, sections)
		refused(t, written{entries([3]int{3, 16, 1}, [3]int{1, 0, 1}), []byte("\x00l\x00g\x00"), first}, sections)
	}
	checkRead(t, written{entries([3]int{1, 0, 1}, [3]int{3, 16, 1}), []byte("\x00l\x00g\x00"), 2}, sections, []api.Symbol{of("l", ".text", api.Local), of("g", ".text", api.Global)}, api.OK)
}

// TestP805Names: tables that tell the right names, but not as they would be written.
func TestP805Names(t *testing.T) {
	two := func(a, b int, strs string) written {
		return written{entries([3]int{a, 0, 65521}, [3]int{b, 16, 65521}), []byte(strs), 2}
	}
	checkRead(t, two(1, 5, "\x00abc\x00bc\x00"), nil, []api.Symbol{of("abc", "*", api.Local), of("bc", "*", api.Global)}, api.OK)
	checkRead(t, two(1, 1, "\x00abc\x00"), nil, []api.Symbol{of("abc", "*", api.Local), of("abc", "*", api.Global)}, api.OK)
	for _, w := range []written{
		two(1, 2, "\x00abc\x00"),                  // the end of another one
		two(1, 5, "\x00abc\x00abc\x00"),           // twice
		two(5, 1, "\x00bc\x00abc\x00"),            // another order
		two(1, 5, "\x00abc\x00bc\x00d\x00"),       // a name that nobody has
		two(1, 5, "\x00abc\x00bc\x00\x00"),        // and an empty one
		two(1, 6, "\x00abc\x00\x00bc\x00"),        // and ahead of one
		two(2, 6, "\x00\x00abc\x00bc\x00"),        // and at the beginning
		two(0, 4, "abc\x00bc\x00"),                // no byte 0 at the beginning
		two(1, 5, "\x01abc\x00bc\x00"),            // another one there
		two(1, 5, "\x00abc\x00bc"),                // no end
		two(1, 8, "\x00abc\x00bc\x00"),            // behind the end
		two(1, 1<<32-1, "\x00abc\x00bc\x00"),      // far behind
		two(4, 5, "\x00abc\x00bc\x00"),            // an empty name that is not the first one
		two(1, 0, "\x00abc\x00"),                  // an empty one that is not Local
		two(1, 5, "\x00abc\x00"+long(256)+"\x00"), // too long
	} {
		refused(t, w, nil)
	}
	nameless := [3]int{0, 0, 65521}
	checkRead(t, written{entries(nameless, nameless), []byte{0}, 3}, nil, []api.Symbol{of("", "*", api.Local), of("", "*", api.Local)}, api.OK)
	refused(t, written{entries(nameless, [3]int{0, 16, 65521}), []byte{0}, 2}, nil)
	twice := [3]int{1, 0, 65521}
	refused(t, written{entries(twice, twice), []byte("\x00a\x00"), 3}, nil)
	refused(t, written{entries([3]int{1, 16, 65521}, [3]int{1, 32, 65521}), []byte("\x00a\x00"), 1}, nil)
	refused(t, written{entries([3]int{1, 0, 0}), []byte("\x00a\x00"), 2}, nil)
}

func TestP805MaxName(t *testing.T) {
	for n, e := range map[int]api.Errno{254: api.OK, 255: api.OK, 256: api.ErrSymbol, 257: api.ErrSymbol, 70000: api.ErrSymbol} {
		var want []api.Symbol
		if e == api.OK {
			want = []api.Symbol{of(long(n), "*", api.Local)}
		}
		checkRead(t, written{entries([3]int{1, 0, 65521}), joined("\x00", long(n), "\x00"), 2}, nil, want, e)
	}
}

func TestP805MaxSymbols(t *testing.T) {
	for n, e := range map[int]api.Errno{1999: api.OK, 2000: api.OK, 2001: api.ErrSymbol, 40000: api.ErrSymbol} {
		var want []api.Symbol
		if e == api.OK {
			want = slices.Repeat([]api.Symbol{of("", "*", api.Local)}, n)
		}
		checkRead(t, written{entries(slices.Repeat([][3]int{{0, 0, 65521}}, n)...), []byte{0}, n + 1}, nil, want, e)
	}
	l := locals(2000)
	checkRead(t, write(t, l, nil), nil, l, api.OK)
}

// TestP805Sections: a list of them that may not be is refused whatever the symbols are; one that lacks the section, too.
func TestP805Sections(t *testing.T) {
	nobody := write(t, nil, nil)
	inSecond := write(t, []api.Symbol{of("a", ".data", api.Global)}, []string{".text", ".data"})
	for _, bad := range [][]string{
		{""}, {"*"}, {"a", "a"}, {"a\x00"}, {"\x00"}, {long(256)}, {"a", "b", ""}, {"a", "b", "*"}, {"a", "b", "a"}, {"a", "b", "c\x00"}, {"a", "b", long(256)}, numbered(65), numbered(70000),
	} {
		refused(t, nobody, bad)
		refused(t, written{}, bad)
		refused(t, inSecond, bad)
	}
	for _, few := range [][]string{nil, {".data"}, {".text"}} {
		checkRead(t, nobody, few, nil, api.OK)
		refused(t, inSecond, few)
	}
	checkRead(t, inSecond, []string{"x", long(255)}, []api.Symbol{of("a", long(255), api.Global)}, api.OK)
	for n := range 64 {
		w := written{entries([3]int{0, 0, n + 1}), []byte{0}, 2}
		refused(t, w, numbered(n))
		checkRead(t, w, numbered(n+1), []api.Symbol{of("", fmt.Sprintf("s%d", n), api.Local)}, api.OK)
	}
	for _, number := range []int{3, 64, 65, 255, 256, 257, 65280, 65520, 65522, 65535} {
		refused(t, written{entries([3]int{1, 16, number}), []byte("\x00a\x00"), 1}, []string{"a", "b"})
	}
	refused(t, written{entries([3]int{1, 16, 65}), []byte("\x00a\x00"), 1}, numbered(65))
}

// TestP805Numbers: Value and Size at both ends, of each kind of section.
func TestP805Numbers(t *testing.T) {
	for _, section := range []int{0, 1, 65521} {
		for _, n := range []int{math.MinInt, -1, 0, 1, most - 1, most, most + 1, math.MaxInt} {
			for _, at := range []int{8, 16} {
				w := written{entries([3]int{1, 16, section}), []byte("\x00a\x00"), 1}
				for k := range 8 {
					w.syms[entry+at+k] = byte(n >> (8 * k))
				}
				want := of("a", []string{"", ".text", "*"}[min(section, 2)], api.Global)
				if at == 8 {
					want.Value = n
				} else {
					want.Size = n
				}
				if n < 0 || n > most || section == 0 && n != 0 {
					refused(t, w, []string{".text"})
				} else {
					checkRead(t, w, []string{".text"}, []api.Symbol{want}, api.OK)
				}
			}
		}
	}
}

// checkBack: Read of Write, and Write of that.
func checkBack(t *testing.T, l []api.Symbol, sections []string) {
	t.Helper()
	w := write(t, l, sections)
	want, _ := modelSorted(l)
	checkRead(t, w, sections, want, api.OK)
	if again := write(t, read(t, w, sections), sections); !again.is(w) {
		t.Fatalf("%s: %s; again %s", short(l), w, again)
	}
}

func TestP807ThereAndBack(t *testing.T) {
	sections := []string{".text", ".data", ".bss"}
	eachList(func(l []api.Symbol) {
		if modelCheck(l, sections) == api.OK {
			checkBack(t, l, sections)
		}
	})
	for _, bind := range bindings() {
		for _, kind := range kinds() {
			for _, n := range []int{0, 1, 255, 256, 1 << 31, 1 << 32, most - 1, most} {
				checkBack(t, []api.Symbol{symbol("s", ".bss", n, most-n, bind, kind), symbol("t", "*", n, n, bind, kind)}, sections)
			}
		}
	}
}

func TestP807Most(t *testing.T) {
	var l []api.Symbol
	sections := numbered(64)
	for k := range 2000 {
		l = append(l, api.Symbol{Name: longer(255, k/2), Section: sections[k%64], Value: k, Size: most - k, Bind: k % 2 * (1 + k/2%2), Type: kinds()[k%5]})
	}
	checkBack(t, l, sections)
}
