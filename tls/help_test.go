package tls_test

import (
	"bytes"
	"fmt"
	"math"
	"math/rand/v2"
	"slices"
	"testing"

	"gangway/api"
	"gangway/tls"
)

func seeded(n uint64) *rand.Rand { return rand.New(rand.NewPCG(21, n)) }

func pick[T any](random *rand.Rand, l ...T) T { return l[random.IntN(len(l))] }

// short is what fits into a line of it.
func short(x any) string {
	s := fmt.Sprintf("%+v", x)
	if b, ok := x.([]byte); ok {
		s = fmt.Sprintf("% x", b)
	}
	if len(s) > 900 {
		return s[:900] + ".."
	}
	return s
}

func models() []int { return []int{tls.Global, tls.Local, tls.Initial, tls.Exec} }

// types are those of the models, in their order.
func types() []int { return []int{api.RTlsgd, api.RTlsld, api.RGotTpoff, api.RTpoff32} }

// strange are numbers that are no such type: all small ones among them.
func strange() []int {
	l := []int{math.MinInt, -1 << 32, -19, -1, 1<<8 + 19, 1<<32 + 19, 1<<32 + 22, math.MaxInt}
	for t := range 256 {
		if !slices.Contains(types(), t) {
			l = append(l, t)
		}
	}
	return l
}

// offsets are numbers at the ends of what fits; most do.
func offsets() []int {
	var l []int
	for _, n := range []int{0, 128, 256, 1 << 15, 1 << 16, 1 << 24, 1 << 31, 1 << 32, 1 << 40, 1 << 62} {
		for d := -2; d <= 2; d++ {
			l = append(l, n+d, -n+d)
		}
	}
	return append(l, 0x11223344, -0x11223344, math.MinInt, math.MinInt+1, math.MaxInt-1, math.MaxInt)
}

// numbered is so many bytes that tell their places, none of them 0.
func numbered(n int) []byte {
	b := make([]byte, n)
	for k := range b {
		b[k] = byte(k%250 + 1)
	}
	return b
}

func checkCode(t *testing.T, model, reg int, name string, want []byte, holes []api.Hole, e api.Errno) {
	t.Helper()
	b, got, f := tls.Code(model, reg, name)
	if !bytes.Equal(b, want) || !slices.Equal(got, holes) || f != e || e != api.OK && (len(b) > 0 || len(got) > 0) {
		t.Errorf("Code(%d, %d, %s): %s, %v, %d; want %s, %v, %d", model, reg, short(name), short(b), got, f, short(want), holes, e)
	}
}

func checkFind(t *testing.T, b []byte, at, kind, model, from, size int, e api.Errno) {
	t.Helper()
	before := bytes.Clone(b)
	m, f, s, got := tls.Find(b, at, kind)
	if m != model || f != from || s != size || got != e {
		t.Errorf("Find(%s, %d, %d): %d, %d, %d, %d; want %d, %d, %d, %d", short(b), at, kind, m, f, s, got, model, from, size, e)
	}
	if !bytes.Equal(b, before) {
		t.Errorf("Find(%s, %d, %d) changed the bytes", short(before), at, kind)
	}
}

func checkRelax(t *testing.T, b []byte, at, kind, offset int, want []byte, e api.Errno) {
	t.Helper()
	before := bytes.Clone(b)
	got, f := tls.Relax(b, at, kind, offset)
	if !bytes.Equal(got, want) || f != e || e != api.OK && len(got) > 0 {
		t.Errorf("Relax(%s, %d, %d, %d): %s, %d; want %s, %d", short(b), at, kind, offset, short(got), f, short(want), e)
	}
	if !bytes.Equal(b, before) {
		t.Errorf("Relax(%s, %d, %d, %d) changed the bytes", short(before), at, kind, offset)
	}
}

func checkBlock(t *testing.T, data []byte, size, align int, want []byte, fs int, e api.Errno) {
	t.Helper()
	before := bytes.Clone(data)
	b, got, f := tls.Block(data, size, align)
	if !bytes.Equal(b, want) || got != fs || f != e || e != api.OK && len(b) > 0 {
		t.Errorf("Block(%s, %d, %d): %s, %d, %d; want %s, %d, %d", short(data), size, align, short(b), got, f, short(want), fs, e)
	}
	if !bytes.Equal(data, before) {
		t.Errorf("Block(%s, %d, %d) changed the data", short(before), size, align)
	}
}
