package layout_test

import (
	"math"
	"slices"
	"testing"

	"gangway/api"
	"gangway/layout"
)

func TestP1906Find(t *testing.T) {
	m := placed(t, files(object(text(16, 3), data(8, 8)), object(text(16, 5), bss(16, 4), note(4))))
	code, bytes, room := m.Outputs[0], m.Outputs[1], m.Outputs[2]
	for _, c := range []struct {
		addr int
		want layout.Output
		ok   bool
	}{
		{4096, code, true}, {4098, code, true}, {4099, code, true}, {4111, code, true}, {4112, code, true}, {4116, code, true},
		{8192, bytes, true}, {8199, bytes, true}, {8208, room, true}, {8211, room, true},
		{4095, layout.Output{}, false}, {4117, layout.Output{}, false}, {8191, layout.Output{}, false}, {8200, layout.Output{}, false}, {8207, layout.Output{}, false}, {8212, layout.Output{}, false},
		{0, layout.Output{}, false}, {-1, layout.Output{}, false}, {math.MinInt, layout.Output{}, false}, {math.MaxInt, layout.Output{}, false},
	} {
		checkFind(t, m, c.addr, c.want, c.ok)
	}
	checkFind(t, layout.Map{}, 4096, layout.Output{}, false)
	checkFind(t, layout.Map{Outputs: []layout.Output{}, End: 4097}, 4096, layout.Output{}, false)
	// An empty one has no addresses.
	m = placed(t, one(rodata(8, 0), text(8, 0), data(8, 1)))
	checkFind(t, m, 4096, m.Outputs[2], true)
}

func TestP1906Named(t *testing.T) {
	m := placed(t, files(object(text(16, 3), data(8, 8), bss(1, 0)), object(text(16, 5), note(4))))
	checkNamed(t, m, ".text", m.Outputs[0], true)
	checkNamed(t, m, ".data", m.Outputs[1], true)
	checkNamed(t, m, ".bss", m.Outputs[2], true)
	for _, n := range []string{"", ".note", ".TEXT", ".tex", ".text\x00", long(70000)} {
		checkNamed(t, m, n, layout.Output{}, false)
		checkNamed(t, layout.Map{}, n, layout.Output{}, false)
	}
}

// TestP1906AsItIs: any Map is looked into as it stands, the first one that holds is meant, and no sum goes beyond the greatest number.
func TestP1906AsItIs(t *testing.T) {
	a, b, c := output("a", 0, 0, 0, 10, 10), output("b", 9, 9, 9, 5, 10), output("a", 0, 0, 0, -10, 5)
	m := layout.Map{Outputs: []layout.Output{a, b, c}}
	for addr := -20; addr < 30; addr++ {
		want, ok := modelFind(m, addr)
		checkFind(t, m, addr, want, ok)
	}
	checkFind(t, m, 12, a, true)
	checkFind(t, m, 9, b, true)
	checkFind(t, m, -6, c, true)
	checkNamed(t, m, "a", a, true)
	checkNamed(t, layout.Map{Outputs: []layout.Output{b, c, a}}, "a", c, true)
	empty := output("", 1, 2, 3, 4, 5)
	checkNamed(t, layout.Map{Outputs: []layout.Output{b, empty}}, "", empty, true)
	far := []int{math.MinInt, math.MinInt + 1, -1 << 62, -2, -1, 0, 1, 2, 1 << 62, math.MaxInt - 1, math.MaxInt}
	for _, addr := range far {
		for _, size := range far {
			for _, place := range far {
				m := layout.Map{Outputs: []layout.Output{output("x", 0, 0, 0, addr, size), output("y", 0, 0, 0, place, 1)}}
				want, ok := modelFind(m, place)
				checkFind(t, m, place, want, ok)
			}
		}
	}
	checkFind(t, layout.Map{Outputs: []layout.Output{output("x", 0, 0, 0, math.MaxInt, math.MaxInt)}}, math.MaxInt, output("x", 0, 0, 0, math.MaxInt, math.MaxInt), true)
}

func TestP1907Bytes(t *testing.T) {
	l := files(object(text(16, 3), data(8, 2)), object(text(16, 5), bss(16, 4), note(4)), object(text(2, 0), tbss(8, 3)), object(text(2, 1)))
	m := placed(t, l)
	checkBytes(t, l, m, ".text", []byte{1, 2, 3, 0, 0, 0, 0, 0, 0, 0, 0, 0, 0, 0, 0, 0, 1, 2, 3, 4, 5, 0, 1}, api.OK)
	checkBytes(t, l, m, ".data", []byte{1, 2}, api.OK)
	checkBytes(t, l, m, ".bss", make([]byte, 4), api.OK)
	checkBytes(t, l, m, ".tbss", make([]byte, 3), api.OK)
	for _, n := range []string{"", ".note", ".tex", ".text ", "\x00", long(70000)} {
		checkBytes(t, l, m, n, nil, api.ErrNone)
	}
	for _, nothing := range [][]api.File{nil, one(note(4)), {{}, {}}} {
		checkBytes(t, nothing, placed(t, nothing), ".note", nil, api.ErrNone)
	}
	empty := one(data(8, 0), bss(8, 0))
	checkBytes(t, empty, placed(t, empty), ".data", nil, api.OK)
	checkBytes(t, empty, placed(t, empty), ".bss", nil, api.OK)
	great := one(bss(8, 1<<24-4096))
	checkBytes(t, great, placed(t, great), ".bss", make([]byte, 1<<24-4096), api.OK)
}

// changed: a Map with a change at each of its numbers and texts, and in each of its lists.
func changed(m layout.Map) []layout.Map {
	var l []layout.Map
	with := func(change func(m *layout.Map)) {
		c := m
		c.Outputs, c.Segments, c.At = slices.Clone(m.Outputs), slices.Clone(m.Segments), slices.Clone(m.At)
		for k := range c.At {
			c.At[k] = slices.Clone(c.At[k])
		}
		change(&c)
		l = append(l, c)
	}
	for _, field := range []func(m *layout.Map) *int{
		func(m *layout.Map) *int { return &m.Tls }, func(m *layout.Map) *int { return &m.TlsSize }, func(m *layout.Map) *int { return &m.TlsAlign },
		func(m *layout.Map) *int { return &m.Tp }, func(m *layout.Map) *int { return &m.End },
	} {
		with(func(m *layout.Map) { *field(m)++ })
	}
	for k := range m.Outputs {
		with(func(m *layout.Map) { m.Outputs[k].Name += "x" })
		for _, field := range []func(o *layout.Output) *int{
			func(o *layout.Output) *int { return &o.Type }, func(o *layout.Output) *int { return &o.Flags }, func(o *layout.Output) *int { return &o.Align },
			func(o *layout.Output) *int { return &o.Addr }, func(o *layout.Output) *int { return &o.Size },
		} {
			with(func(m *layout.Map) { *field(&m.Outputs[k])-- })
		}
		with(func(m *layout.Map) { m.Outputs = slices.Delete(m.Outputs, k, k+1) })
	}
	for k := range m.Segments {
		for _, field := range []func(s *api.Segment) *int{
			func(s *api.Segment) *int { return &s.Type }, func(s *api.Segment) *int { return &s.Flags }, func(s *api.Segment) *int { return &s.Align },
			func(s *api.Segment) *int { return &s.Addr }, func(s *api.Segment) *int { return &s.Offset },
			func(s *api.Segment) *int { return &s.Size }, func(s *api.Segment) *int { return &s.Memory },
		} {
			with(func(m *layout.Map) { *field(&m.Segments[k]) += 8 })
		}
		with(func(m *layout.Map) { m.Segments = append(m.Segments, m.Segments[k]) })
	}
	for i := range m.At {
		for k := range m.At[i] {
			with(func(m *layout.Map) { m.At[i][k]++ })
		}
		with(func(m *layout.Map) { m.At[i] = append(m.At[i], -1) })
		with(func(m *layout.Map) { m.At = slices.Delete(m.At, i, i+1) })
	}
	with(func(m *layout.Map) { m.At = append(m.At, nil) })
	with(func(m *layout.Map) { m.Outputs[0], m.Outputs[1] = m.Outputs[1], m.Outputs[0] })
	with(func(m *layout.Map) { *m = layout.Map{} })
	return l
}

// TestP1907OtherMaps: any other Map than the objects' own is refused, whatever is asked for.
func TestP1907OtherMaps(t *testing.T) {
	l := files(object(text(16, 3), data(8, 2)), object(), object(note(4), tbss(8, 3)))
	for _, m := range changed(placed(t, l)) {
		for _, n := range []string{".text", ".data", ".note", ""} {
			checkBytes(t, l, m, n, nil, api.ErrArg)
		}
	}
	m := placed(t, l)
	checkBytes(t, l[:2], m, ".text", nil, api.ErrArg)
	checkBytes(t, append(l, object()), m, ".text", nil, api.ErrArg)
	checkBytes(t, nil, m, ".text", nil, api.ErrArg)
	checkBytes(t, nil, layout.Map{}, "", nil, api.ErrArg)
	checkBytes(t, nil, layout.Map{End: 4096}, "", nil, api.ErrNone)
	// Nil lists and empty ones are one.
	m.At[1] = []int{}
	checkBytes(t, l, m, ".data", []byte{1, 2}, api.OK)
	m.At[1] = nil
	checkBytes(t, l, m, ".data", []byte{1, 2}, api.OK)
	checkBytes(t, nil, layout.Map{Outputs: []layout.Output{}, At: [][]int{}, Segments: []api.Segment{}, End: 4096}, "", nil, api.ErrNone)
	// Other bytes at the same places are as good.
	other := files(object(text(16, 3), data(8, 2)), object(), object(note(4), tbss(8, 3)))
	other[0].Sections[1].Data[1] = 99
	checkBytes(t, other, m, ".data", []byte{1, 99}, api.OK)
}

// TestP1907InOrder: Place's error, then ErrArg, then ErrNone.
func TestP1907InOrder(t *testing.T) {
	good := one(text(16, 3))
	for _, c := range []struct {
		l []api.File
		e api.Errno
	}{{one(text(3, 3)), api.ErrSymbol}, {one(bss(1, 1<<30)), api.ErrSize}, {files(object(text(1, 3)), object(section(".text", 1, 0, 1, 3))), api.ErrType}} {
		for _, m := range []layout.Map{{}, placed(t, good)} {
			for _, n := range []string{".text", "nobody"} {
				checkBytes(t, c.l, m, n, nil, c.e)
			}
		}
	}
	checkBytes(t, good, layout.Map{}, "nobody", nil, api.ErrArg)
	checkBytes(t, good, placed(t, good), "nobody", nil, api.ErrNone)
}
