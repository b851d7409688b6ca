package layout_test

import (
	"bytes"
	"fmt"
	"math/rand/v2"
	"reflect"
	"slices"
	"strings"
	"testing"

	"gangway/api"
	"gangway/layout"
)

func seeded(n uint64) *rand.Rand { return rand.New(rand.NewPCG(19, n)) }

func pick[T any](random *rand.Rand, l ...T) T { return l[random.IntN(len(l))] }

// long is a name of so many bytes.
func long(n int) string { return strings.Repeat("n", n) }

// short is what fits into a line of it.
func short(x any) string {
	s := fmt.Sprintf("%+v", x)
	if len(s) > 900 {
		return s[:900] + ".."
	}
	return s
}

// section is one with so many bytes, each of which tells its place, or with room for so many.
func section(name string, kind, flags, align, size int) api.Section {
	s := api.Section{Name: name, Type: kind, Flags: flags, Align: align, Size: size}
	if kind != api.NoBits {
		for k := range size {
			s.Data = append(s.Data, byte(k%250+1))
		}
	}
	return s
}

func text(align, size int) api.Section {
	return section(".text", api.ProgBits, api.Alloc|api.Exec, align, size)
}

func rodata(align, size int) api.Section {
	return section(".rodata", api.ProgBits, api.Alloc, align, size)
}

func data(align, size int) api.Section {
	return section(".data", api.ProgBits, api.Alloc|api.Write, align, size)
}

func bss(align, size int) api.Section {
	return section(".bss", api.NoBits, api.Alloc|api.Write, align, size)
}

func tdata(align, size int) api.Section {
	return section(".tdata", api.ProgBits, api.Alloc|api.Write|api.TlsFlag, align, size)
}

func tbss(align, size int) api.Section {
	return section(".tbss", api.NoBits, api.Alloc|api.Write|api.TlsFlag, align, size)
}

func note(size int) api.Section { return section(".note", api.ProgBits, 0, 1, size) }

// named is the same section of another name.
func named(s api.Section, name string) api.Section {
	s.Name = name
	return s
}

// object is one with sections alone.
func object(l ...api.Section) api.File { return api.File{Sections: l} }

func files(l ...api.File) []api.File { return l }

// one is a single object with these sections.
func one(l ...api.Section) []api.File { return files(object(l...)) }

func output(name string, kind, flags, align, addr, size int) layout.Output {
	return layout.Output{Name: name, Type: kind, Flags: flags, Align: align, Addr: addr, Size: size}
}

func load(flags, addr, size, memory int) api.Segment {
	return api.Segment{Type: 1, Flags: flags, Addr: addr, Offset: addr, Size: size, Memory: memory, Align: 4096}
}

func tls(addr, size, memory, align int) api.Segment {
	return api.Segment{Type: 7, Flags: 4, Addr: addr, Offset: addr, Size: size, Memory: memory, Align: align}
}

// areSame: Maps, nil lists and empty ones being one.
func areSame(a, b layout.Map) bool {
	same := slices.Equal(a.Outputs, b.Outputs) && slices.EqualFunc(a.At, b.At, slices.Equal) && slices.Equal(a.Segments, b.Segments)
	a.Outputs, a.At, a.Segments = nil, nil, nil
	b.Outputs, b.At, b.Segments = nil, nil, nil
	return same && reflect.DeepEqual(a, b)
}

func isZero(m layout.Map) bool { return areSame(m, layout.Map{}) }

// checkError: of Place; and Bytes answers it too, whatever the Map.
func checkError(t *testing.T, l []api.File, e api.Errno) {
	t.Helper()
	if m, got := layout.Place(l); got != e || !isZero(m) {
		t.Fatalf("Place(%s): %s, %d; want %d", short(l), short(m), got, e)
	}
	for _, m := range []layout.Map{{}, {End: 4096}, {Outputs: []layout.Output{{Name: ".text"}}}} {
		checkBytes(t, l, m, ".text", nil, e)
	}
}

// placed is what Place answers of objects that it takes.
func placed(t *testing.T, l []api.File) layout.Map {
	t.Helper()
	m, e := layout.Place(l)
	if e != api.OK {
		t.Fatalf("Place(%s): %d", short(l), e)
	}
	return m
}

func checkOutputs(t *testing.T, l []api.File, want ...layout.Output) {
	t.Helper()
	if m := placed(t, l); !slices.Equal(m.Outputs, want) {
		t.Fatalf("Place(%s): Outputs %s; want %s", short(l), short(m.Outputs), short(want))
	}
}

func checkAt(t *testing.T, l []api.File, want ...[]int) {
	t.Helper()
	if m := placed(t, l); !slices.EqualFunc(m.At, want, slices.Equal) {
		t.Fatalf("Place(%s): At %s; want %s", short(l), short(m.At), short(want))
	}
}

func checkSegments(t *testing.T, l []api.File, want ...api.Segment) {
	t.Helper()
	if m := placed(t, l); !slices.Equal(m.Segments, want) {
		t.Fatalf("Place(%s): Segments %s; want %s", short(l), short(m.Segments), short(want))
	}
}

func checkThread(t *testing.T, l []api.File, begin, size, align, tp int) {
	t.Helper()
	m := placed(t, l)
	if got, want := [4]int{m.Tls, m.TlsSize, m.TlsAlign, m.Tp}, [4]int{begin, size, align, tp}; got != want {
		t.Fatalf("Place(%s): %v; want %v", short(l), got, want)
	}
}

func checkEnd(t *testing.T, l []api.File, end int) {
	t.Helper()
	if m := placed(t, l); m.End != end {
		t.Fatalf("Place(%s): End %d; want %d", short(l), m.End, end)
	}
}

func checkFind(t *testing.T, m layout.Map, addr int, want layout.Output, ok bool) {
	t.Helper()
	if got, gotOk := layout.Find(m, addr); got != want || gotOk != ok {
		t.Fatalf("Find(%s, %d): %s, %v; want %s, %v", short(m), addr, short(got), gotOk, short(want), ok)
	}
}

func checkNamed(t *testing.T, m layout.Map, name string, want layout.Output, ok bool) {
	t.Helper()
	if got, gotOk := layout.Named(m, name); got != want || gotOk != ok {
		t.Fatalf("Named(%s, %q): %s, %v; want %s, %v", short(m), name, short(got), gotOk, short(want), ok)
	}
}

func checkBytes(t *testing.T, l []api.File, m layout.Map, name string, want []byte, e api.Errno) {
	t.Helper()
	if got, gotE := layout.Bytes(l, m, name); !bytes.Equal(got, want) || gotE != e {
		t.Fatalf("Bytes(%s, %s, %q): %s, %d; want %s, %d", short(l), short(m), name, short(got), gotE, short(want), e)
	}
}
