package symtab_test

import (
	"math"
	"slices"
	"testing"

	"gangway/api"
)

// TestP803MayBe: each binding and type, in a section, in "*" and in none, with the least and the greatest numbers.
func TestP803MayBe(t *testing.T) {
	sections := []string{".text", ".data", "x"}
	for _, bind := range bindings() {
		for _, kind := range kinds() {
			for _, section := range []string{".text", ".data", "x", "*"} {
				for _, n := range []int{0, 1, most - 1, most} {
					s := api.Symbol{Name: "x", Section: section, Value: n, Size: most - n, Bind: bind, Type: kind}
					checkAnswer(t, []api.Symbol{s}, sections, api.OK)
				}
			}
			undefined := api.Symbol{Name: "x", Bind: bind, Type: kind}
			if bind != api.Local {
				checkAnswer(t, []api.Symbol{undefined}, sections, api.OK)
				checkAnswer(t, []api.Symbol{undefined}, nil, api.OK)
			}
		}
	}
	checkAnswer(t, nil, nil, api.OK)
	checkAnswer(t, []api.Symbol{}, []string{}, api.OK)
	checkAnswer(t, nil, sections, api.OK)
	checkAnswer(t, []api.Symbol{of("", ".text", api.Local), of("", "*", api.Local), of("", ".text", api.Local)}, sections, api.OK)
	checkAnswer(t, []api.Symbol{of("\xff\xfe", "\xfd", api.Local), of(" ", "\n", api.Weak), of("*", "**", api.Local)}, []string{"\xfd", "\n", "**"}, api.OK)
	checkAnswer(t, []api.Symbol{of(".text", ".text", api.Local)}, sections, api.OK)
}

// wrong: symbols that may not be beside a section .text, each for one reason alone.
func wrong() []api.Symbol {
	return []api.Symbol{
		of("\x00", "*", api.Local),
		of("a\x00", "*", api.Global),
		of("\x00a", ".text", api.Weak),
		of(long(254)+"\x00", ".text", api.Weak),
		of("a", ".data", api.Local),
		of("a", ".tex", api.Local),
		of("a", ".text ", api.Local),
		of("a", "text", api.Local),
		of("a", ".text\x00", api.Local),
		of("a", "\x00", api.Global),
		of("a", "**", api.Global),
		of("a", " ", api.Global),
		of("a", long(255), api.Global),
		of("a", long(256), api.Global),
		{Name: "a", Section: ".text", Value: -1},
		{Name: "a", Section: "*", Value: math.MinInt},
		{Name: "a", Section: ".text", Value: most + 1},
		{Name: "a", Section: "*", Value: math.MaxInt},
		{Name: "a", Section: ".text", Size: -1},
		{Name: "a", Section: "*", Size: math.MinInt},
		{Name: "a", Section: ".text", Size: most + 1},
		{Name: "a", Section: "*", Size: math.MaxInt},
		of("a", ".text", -1),
		of("a", "*", 3),
		of("a", ".text", 4),
		of("a", ".text", 10),
		of("a", ".text", 16),
		of("a", ".text", 256),
		of("a", "", math.MaxInt),
		of("a", "*", math.MinInt),
		{Name: "a", Section: "*", Type: -1},
		{Name: "a", Section: "*", Type: 3},
		{Name: "a", Section: "*", Type: 4},
		{Name: "a", Section: "*", Type: 5},
		{Name: "a", Section: "*", Type: 7},
		{Name: "a", Section: "*", Type: 9},
		{Name: "a", Section: ".text", Type: 11},
		{Name: "a", Section: ".text", Type: 16},
		{Name: "a", Section: ".text", Type: 258},
		{Name: "a", Section: ".text", Type: math.MaxInt},
		{Name: "a", Section: ".text", Type: math.MinInt},
		of("a", "", api.Local),
		{Name: "a", Bind: api.Global, Value: 1},
		{Name: "a", Bind: api.Weak, Value: most},
		{Name: "a", Bind: api.Global, Size: 1},
		{Name: "a", Bind: api.Weak, Size: most},
		of("", ".text", api.Global),
		of("", "*", api.Weak),
		of("", "", api.Global),
		of("", "", api.Local),
	}
}

func TestP803MayNotBe(t *testing.T) {
	for _, s := range wrong() {
		for _, l := range [][]api.Symbol{{s}, {of("ok", ".text", api.Global), s}, {s, of("ok", ".text", api.Local)}, {of("", "*", api.Local), s, of("z", "", api.Weak)}} {
			checkAnswer(t, l, []string{".text"}, api.ErrSymbol)
		}
	}
}

func TestP803Alike(t *testing.T) {
	for _, a := range bindings() {
		for _, b := range bindings() {
			want := api.ErrSymbol
			if (a == api.Local) != (b == api.Local) {
				want = api.OK
			}
			for _, section := range []string{".text", "*"} {
				l := []api.Symbol{of("x", ".text", a), {Name: "x", Section: section, Value: 9, Size: 3, Bind: b, Type: api.Func}}
				checkAnswer(t, l, []string{".text"}, want)
				checkAnswer(t, []api.Symbol{l[1], of("y", "*", a), of("z", "*", b), l[0]}, []string{".text"}, want)
			}
			checkAnswer(t, []api.Symbol{of("x", ".text", a), of("X", ".text", b)}, []string{".text"}, api.OK)
			checkAnswer(t, []api.Symbol{of("x", ".text", a), of("xx", ".text", b)}, []string{".text"}, api.OK)
		}
	}
	checkAnswer(t, []api.Symbol{of("x", "", api.Global), of("x", "*", api.Local)}, nil, api.OK)
	checkAnswer(t, []api.Symbol{of("x", "", api.Global), of("x", "", api.Weak)}, nil, api.ErrSymbol)
	checkAnswer(t, []api.Symbol{of("x", "", api.Global), of("x", "*", api.Global)}, nil, api.ErrSymbol)
	// The third one is like the first one, whatever stands between.
	for _, between := range bindings() {
		for _, bind := range bindings() {
			checkAnswer(t, []api.Symbol{of("x", "*", bind), of("x", "*", between), of("x", "*", bind)}, nil, api.ErrSymbol)
		}
	}
}

func TestP803Sections(t *testing.T) {
	for _, l := range [][]api.Symbol{nil, {of("a", "*", api.Local)}, {of("a", ".text", api.Global)}} {
		for _, bad := range [][]string{
			{".text", ""}, {"", ".text"}, {"*", ".text"}, {".text", "*"}, {".text", ".text"}, {".text", "a", ".text"}, {"a", "b", "a", ".text"},
			{".text", "\x00"}, {".text", "a\x00"}, {"\x00a", ".text"}, {".text", "", ""}, {".text", long(254) + "\x00"},
		} {
			checkAnswer(t, l, bad, api.ErrSymbol)
		}
		checkAnswer(t, l, []string{".text", "text", ".Text", ".text.", "**", " ", "\xff"}, api.OK)
	}
}

func TestP803MaxSections(t *testing.T) {
	names := numbered(66)
	for _, l := range [][]api.Symbol{nil, {of("a", "s0", api.Local), of("b", "s63", api.Local)}} {
		checkAnswer(t, l, names[:64], api.OK)
		checkAnswer(t, l, names[:65], api.ErrSize)
		checkAnswer(t, l, names, api.ErrSize)
	}
	checkAnswer(t, []api.Symbol{of("a", "s63", api.Local)}, names[:63], api.ErrSymbol)
}

func TestP803MaxSymbols(t *testing.T) {
	l := locals(2001)
	checkAnswer(t, l[:2000], nil, api.OK)
	checkAnswer(t, l, nil, api.ErrSize)
	nameless := slices.Repeat([]api.Symbol{of("", "*", api.Local)}, 2001)
	checkAnswer(t, nameless[:2000], nil, api.OK)
	checkAnswer(t, nameless, nil, api.ErrSize)
	checkAnswer(t, slices.Repeat(l, 100), nil, api.ErrSize)
}

func TestP803MaxName(t *testing.T) {
	for _, bind := range bindings() {
		checkAnswer(t, []api.Symbol{of(long(255), "*", bind)}, nil, api.OK)
		checkAnswer(t, []api.Symbol{of(long(256), "*", bind)}, nil, api.ErrSize)
		checkAnswer(t, []api.Symbol{of("a", "*", bind), of(long(255), "*", bind), of(long(254), "*", bind)}, nil, api.OK)
		checkAnswer(t, []api.Symbol{of("a", "*", bind), of(long(255), "*", bind), of(long(256), "*", bind)}, nil, api.ErrSize)
		checkAnswer(t, []api.Symbol{of("a", long(255), bind)}, []string{"a", long(255)}, api.OK)
		checkAnswer(t, []api.Symbol{of("a", long(256), bind)}, []string{"a", long(256)}, api.ErrSize)
	}
	checkAnswer(t, nil, []string{"a", long(255), "b"}, api.OK)
	checkAnswer(t, nil, []string{"a", long(256), "b"}, api.ErrSize)
	checkAnswer(t, nil, []string{long(api.MaxBytes)}, api.ErrSize)
}

// TestP803ErrorsInOrder: too much is told ahead of all else, wherever it stands.
func TestP803ErrorsInOrder(t *testing.T) {
	text := []string{".text"}
	for _, s := range wrong() {
		checkAnswer(t, []api.Symbol{s}, append(numbered(64), text...), api.ErrSize)
		checkAnswer(t, []api.Symbol{s}, append([]string{long(256)}, text...), api.ErrSize)
		checkAnswer(t, []api.Symbol{s}, append(text, long(256)), api.ErrSize)
		checkAnswer(t, []api.Symbol{s, of(long(256), "*", api.Local)}, text, api.ErrSize)
		checkAnswer(t, []api.Symbol{of(long(256), "*", api.Local), s}, text, api.ErrSize)
		checkAnswer(t, append(locals(2000), s), text, api.ErrSize)
		checkAnswer(t, append([]api.Symbol{s}, locals(2000)...), text, api.ErrSize)
		s.Name = long(256)
		checkAnswer(t, []api.Symbol{s}, text, api.ErrSize)
	}
	for _, bad := range []string{"", "*", "\x00", "s3"} {
		checkAnswer(t, nil, append(numbered(64), bad), api.ErrSize)
		checkAnswer(t, nil, append([]string{bad}, numbered(64)...), api.ErrSize)
		checkAnswer(t, nil, []string{"s3", bad, long(256)}, api.ErrSize)
		checkAnswer(t, nil, []string{long(256), "s3", bad}, api.ErrSize)
		checkAnswer(t, locals(2001), []string{"s3", bad}, api.ErrSize)
		checkAnswer(t, []api.Symbol{of(long(256), "*", api.Local)}, []string{"s3", bad}, api.ErrSize)
	}
	checkAnswer(t, nil, []string{long(256) + "\x00"}, api.ErrSize)
	checkAnswer(t, nil, []string{long(255) + "\x00"}, api.ErrSize)
	checkAnswer(t, []api.Symbol{of(long(255)+"\x00", "*", api.Local)}, nil, api.ErrSize)
	checkAnswer(t, []api.Symbol{of(long(256), "*", api.Local), of(long(256), "*", api.Local)}, nil, api.ErrSize)
}

// TestP803Fields: one symbol of all fields' values, as the model has it.
func TestP803Fields(t *testing.T) {
	sections := []string{".text", "a"}
	numbers := []int{math.MinInt, -1, 0, 1, 7, most - 1, most, most + 1, math.MaxInt}
	for _, name := range []string{"", "a", "a\x00", "*", long(255), long(256)} {
		for _, section := range []string{"", "*", ".text", "a", "b"} {
			for _, value := range numbers {
				for _, size := range numbers {
					for bind := -1; bind <= 4; bind++ {
						for kind := -1; kind <= 17; kind++ {
							l := []api.Symbol{symbol(name, section, value, size, bind, kind)}
							checkAnswer(t, l, sections, modelCheck(l, sections))
						}
					}
				}
			}
		}
	}
}

// sample: symbols of which several go well together, or do not.
func sample() []api.Symbol {
	return []api.Symbol{
		symbol("", ".text", 0, 0, api.Local, api.NoType),
		symbol("", "*", 5, 0, api.Local, api.Tls),
		symbol("", "", 0, 0, api.Global, api.NoType),
		symbol("x", ".text", 1, 2, api.Local, api.Func),
		symbol("x", ".data", 300, 70000, api.Global, api.Object),
		symbol("x", "", 0, 0, api.Weak, api.NoType),
		symbol("y", "*", most, most, api.Local, api.NoType),
		symbol("y", "", 0, 0, api.Global, api.Ifunc),
		symbol("xy", ".data", 1<<40, 1, api.Weak, api.Tls),
		symbol("yx", ".bss", 0, 0, api.Local, api.NoType),
	}
}

// eachList: of up to four of the sample.
func eachList(f func(l []api.Symbol)) {
	all := sample()
	var grow func(l []api.Symbol)
	grow = func(l []api.Symbol) {
		f(l)
		if len(l) < 4 {
			for _, s := range all {
				grow(append(slices.Clip(l), s))
			}
		}
	}
	grow(nil)
}

func TestP803Lists(t *testing.T) {
	sections := []string{".text", ".data"}
	eachList(func(l []api.Symbol) { checkAnswer(t, l, sections, modelCheck(l, sections)) })
}
