package reloc_test

import (
	"bytes"
	"fmt"
	"math"
	"math/rand/v2"
	"testing"

	"gangway/api"
	"gangway/reloc"
)

const far = 1 << 60

func seeded(n uint64) *rand.Rand { return rand.New(rand.NewPCG(20, n)) }

func pick[T any](random *rand.Rand, l ...T) T { return l[random.IntN(len(l))] }

// short is what fits into a line of it.
func short(x any) string {
	s := fmt.Sprintf("%+v", x)
	if len(s) > 900 {
		return s[:900] + ".."
	}
	return s
}

// worked are the types that have a value; named those that have a name alone.
func worked() []int {
	return []int{api.R64, api.RPc32, api.RPlt32, api.R32, api.R32S, api.RGotPcrel, api.RGotTpoff, api.RTpoff32, api.RDtpoff32}
}

func named() []int {
	return []int{api.RNone, api.RGlobDat, api.RRelative, api.RTlsgd, api.RTlsld, api.RIrelative}
}

// strange are numbers that are no type's: all small ones among them.
func strange() []int {
	l := []int{math.MinInt, math.MinInt + 1, -1 << 32, -1<<32 + 1, -256, -38, -37, -10, -2, -1, 1 << 8, 1<<8 + 1, 1 << 32, 1<<32 + 1, 1<<32 + 2, math.MaxInt}
	for t := range 256 {
		if modelName(t) == "" {
			l = append(l, t)
		}
	}
	return l
}

// edges are numbers at the ends of what places may have and of what fits.
func edges() []int {
	var l []int
	for _, n := range []int{0, 127, 128, 1 << 16, 1 << 31, 1 << 32, 1 << 33, far} {
		for d := -2; d <= 2; d++ {
			l = append(l, n+d, -n+d)
		}
	}
	return append(l, math.MinInt, math.MinInt+1, math.MinInt/2, math.MaxInt/2, math.MaxInt-1, math.MaxInt)
}

// numbered is so many bytes that tell their places, none of them 0.
func numbered(n int) []byte {
	b := make([]byte, n)
	for k := range b {
		b[k] = byte(k%250 + 1)
	}
	return b
}

func checkSize(t *testing.T, kind, want int, e api.Errno) {
	t.Helper()
	if n, got := reloc.Size(kind); n != want || got != e {
		t.Errorf("Size(%d): %d, %d; want %d, %d", kind, n, got, want, e)
	}
}

func checkName(t *testing.T, kind int, want string) {
	t.Helper()
	if s := reloc.Name(kind); s != want {
		t.Errorf("Name(%d): %q; want %q", kind, s, want)
	}
}

func checkValue(t *testing.T, kind int, p reloc.Place, want int, e api.Errno) {
	t.Helper()
	if v, got := reloc.Value(kind, p); v != want || got != e {
		t.Errorf("Value(%d, %+v): %d, %d; want %d, %d", kind, p, v, got, want, e)
	}
}

func checkFits(t *testing.T, kind, v int, want bool, e api.Errno) {
	t.Helper()
	if is, got := reloc.Fits(kind, v); is != want || got != e {
		t.Errorf("Fits(%d, %d): %v, %d; want %v, %d", kind, v, is, got, want, e)
	}
}

func checkApply(t *testing.T, b []byte, at, kind int, p reloc.Place, want []byte, e api.Errno) {
	t.Helper()
	before := bytes.Clone(b)
	got, f := reloc.Apply(b, at, kind, p)
	if !bytes.Equal(got, want) || f != e || e != api.OK && len(got) > 0 {
		t.Errorf("Apply(%s, %d, %d, %+v): %s, %d; want %s, %d", short(b), at, kind, p, short(got), f, short(want), e)
	}
	if !bytes.Equal(b, before) {
		t.Errorf("Apply(%s, %d, %d, %+v) changed the bytes", short(before), at, kind, p)
	}
}

func checkSlot(t *testing.T, kind int, got, tpoff, left bool) {
	t.Helper()
	if a, b := reloc.Slot(kind); a != got || b != tpoff {
		t.Errorf("Slot(%d): %v, %v", kind, a, b)
	}
	if is := reloc.Left(kind); is != left {
		t.Errorf("Left(%d): %v", kind, is)
	}
}

func checkRelax(t *testing.T, b []byte, at int, want []byte, is bool) {
	t.Helper()
	before := bytes.Clone(b)
	op, to, got := reloc.Relax(b, at)
	var right byte
	if is {
		right = 0x8d
	}
	if op != right || !bytes.Equal(to, want) || got != is {
		t.Errorf("Relax(%s, %d): %x, %s, %v; want %s, %v", short(b), at, op, short(to), got, short(want), is)
	}
	if !bytes.Equal(b, before) {
		t.Errorf("Relax(%s, %d) changed the bytes", short(before), at)
	}
}
