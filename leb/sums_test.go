package leb_test

import (
	"math"
	"math/big"
	"testing"

	"gangway/api"
	"gangway/leb"
)

func TestP106Text(t *testing.T) {
	for _, c := range []struct {
		b   string
		at  int
		s   string
		end int
		e   api.Errno
	}{
		{"ab\x00c", 0, "ab", 3, 0},
		{"ab\x00c", 1, "b", 3, 0},
		{"ab\x00c", 2, "", 3, 0},
		{"ab\x00c", 3, "", 0, api.ErrEnd},
		{"ab\x00c", 4, "", 0, api.ErrEnd},
		{"ab\x00c", 5, "", 0, api.ErrEnd},
		{"ab\x00c", -1, "", 0, api.ErrEnd},
		{"ab\x00c\x00", 0, "ab", 3, 0},
		{"ab\x00c\x00", 3, "c", 5, 0},
		{"ab\x00c\x00", 5, "", 0, api.ErrEnd},
		{"\x00", 0, "", 1, 0},
		{"\x00\x00", 1, "", 2, 0},
		{"\xff\xfe\n\x00", 0, "\xff\xfe\n", 4, 0},
		{"", 0, "", 0, api.ErrEnd},
		{"", 1, "", 0, api.ErrEnd},
		{"a\x00", math.MaxInt, "", 0, api.ErrEnd},
		{"a\x00", math.MinInt, "", 0, api.ErrEnd},
	} {
		if s, end, e := leb.Text([]byte(c.b), c.at); s != c.s || end != c.end || e != c.e {
			t.Errorf("Text(%q, %d): %q, %d, %d; want %q, %d, %d", c.b, c.at, s, end, e, c.s, c.end, c.e)
		}
	}
	if s, end, e := leb.Text(nil, 0); s != "" || end != 0 || e != api.ErrEnd {
		t.Error("Text of nil", s, end, e)
	}
}

func TestP107AlignExamples(t *testing.T) {
	for _, c := range []struct {
		n, a, want int
		e          api.Errno
	}{
		{13, 8, 16, 0},
		{16, 8, 16, 0},
		{17, 8, 24, 0},
		{0, 1, 0, 0},
		{0, 1 << 30, 0, 0},
		{1, 1 << 30, 1 << 30, 0},
		{math.MaxInt, 1, math.MaxInt, 0},
		{math.MaxInt, 2, 0, api.ErrRange},
		{math.MaxInt - 1, 2, math.MaxInt - 1, 0},
		{math.MaxInt - 7, 8, math.MaxInt - 7, 0},
		{math.MaxInt - 6, 8, 0, api.ErrRange},
		{math.MaxInt - 1<<30 + 1, 1 << 30, math.MaxInt - 1<<30 + 1, 0},
		{math.MaxInt - 1<<30 + 2, 1 << 30, 0, api.ErrRange},
		{-1, 1, 0, api.ErrRange},
		{-8, 8, 0, api.ErrRange},
		{math.MinInt, 8, 0, api.ErrRange},
		{13, 3, 0, api.ErrArg},
		{13, 0, 0, api.ErrArg},
		{13, -1, 0, api.ErrArg},
		{13, -8, 0, api.ErrArg},
		{13, math.MinInt, 0, api.ErrArg},
		{13, 1<<30 + 1, 0, api.ErrArg},
		{13, 1<<30 - 1, 0, api.ErrArg},
		{13, 1 << 31, 0, api.ErrArg},
		{13, 1 << 62, 0, api.ErrArg},
		{-1, 3, 0, api.ErrArg},
	} {
		if n, e := leb.Align(c.n, c.a); n != c.want || e != c.e {
			t.Errorf("Align(%d, %d): %d, %d; want %d, %d", c.n, c.a, n, e, c.want, c.e)
		}
	}
}

func TestP107AlignTakesPowersOfTwo(t *testing.T) {
	for k := range 63 {
		a := 1 << k
		if _, e := leb.Align(5, a); (e == api.OK) != (k <= 30) {
			t.Errorf("Align(5, 2^%d): %d", k, e)
		}
		for _, near := range []int{a - 1, a + 1} {
			if _, e := leb.Align(5, near); k >= 2 && e != api.ErrArg {
				t.Errorf("Align(5, %d): %d", near, e)
			}
		}
	}
}

func TestP107Add(t *testing.T) {
	if n, e := leb.Add(math.MaxInt, 1); n != 0 || e != api.ErrRange {
		t.Error("Add(2^63 - 1, 1)", n, e)
	}
	for _, a := range edges() {
		for _, b := range edges() {
			want := new(big.Int).Add(big.NewInt(int64(a)), big.NewInt(int64(b)))
			n, e := leb.Add(a, b)
			if want.IsInt64() && (e != api.OK || int64(n) != want.Int64()) || !want.IsInt64() && (e != api.ErrRange || n != 0) {
				t.Errorf("Add(%d, %d): %d, %d; want %v", a, b, n, e, want)
			}
		}
	}
}

func TestP107FitsExamples(t *testing.T) {
	for _, c := range []struct {
		n, bits      int
		signed, want bool
	}{
		{-128, 8, true, true},
		{-129, 8, true, false},
		{127, 8, true, true},
		{128, 8, true, false},
		{255, 8, false, true},
		{256, 8, false, false},
		{-1, 8, false, false},
		{0, 0, true, false},
		{0, 0, false, false},
		{0, 1, true, true},
		{-1, 1, true, true},
		{1, 1, true, false},
		{1, 1, false, true},
		{2, 1, false, false},
		{math.MaxInt, 63, true, false},
		{1<<62 - 1, 63, true, true},
		{-1 << 62, 63, true, true},
		{math.MaxInt, 63, false, true},
		{-1, 63, false, false},
		{math.MaxInt, 62, false, false},
		{math.MinInt, 64, true, true},
		{math.MaxInt, 64, true, true},
		{math.MaxInt, 64, false, true},
		{-1, 64, false, false},
		{math.MinInt, 64, false, false},
		{0, 65, true, false},
		{0, 65, false, false},
		{0, -1, true, false},
		{0, math.MinInt, false, false},
		{0, math.MaxInt, true, false},
	} {
		if got := leb.Fits(c.n, c.bits, c.signed); got != c.want {
			t.Errorf("Fits(%d, %d, %v): %v", c.n, c.bits, c.signed, got)
		}
	}
}

func TestP107FitsAtAllWidths(t *testing.T) {
	one := big.NewInt(1)
	for bits := -3; bits < 70; bits++ {
		for _, n := range edges() {
			signed, plain := false, false
			if bits >= 1 && bits <= 64 {
				signed = between(n, new(big.Int).Neg(power(bits-1)), new(big.Int).Sub(power(bits-1), one))
				plain = between(n, new(big.Int), new(big.Int).Sub(power(bits), one))
			}
			if leb.Fits(n, bits, true) != signed || leb.Fits(n, bits, false) != plain {
				t.Errorf("Fits(%d, %d, ..): %v, %v; want %v, %v", n, bits, leb.Fits(n, bits, true), leb.Fits(n, bits, false), signed, plain)
			}
		}
	}
}

func TestP110Align(t *testing.T) {
	for k := range 31 {
		a := 1 << k
		for _, n := range edges() {
			m, e := leb.Align(n, a)
			if e != api.OK {
				continue
			}
			if m%a != 0 || m < n || m-n >= a {
				t.Errorf("Align(%d, %d): %d", n, a, m)
			}
			if again, e := leb.Align(m, a); again != m || e != api.OK {
				t.Errorf("Align(%d, %d): %d, %d; want it as it is", m, a, again, e)
			}
		}
	}
}

// TestP110AlignFails: beside what Align answers, an error is there just where no int would do.
func TestP110AlignFails(t *testing.T) {
	for k := range 31 {
		a := 1 << k
		for _, n := range edges() {
			last := math.MaxInt - (a - 1)
			want := api.OK
			if n < 0 || n > last {
				want = api.ErrRange
			}
			if _, e := leb.Align(n, a); e != want {
				t.Errorf("Align(%d, %d): %d; want %d", n, a, e, want)
			}
		}
	}
}
