package leb_test

import (
	"bytes"
	"math"
	"math/big"
	"testing"

	"gangway/api"
	"gangway/leb"
)

func TestP104Examples(t *testing.T) {
	for _, c := range []struct {
		n          int
		uleb, sleb []byte
	}{
		{0, []byte{0}, []byte{0}},
		{1, []byte{1}, []byte{1}},
		{63, []byte{63}, []byte{63}},
		{64, []byte{64}, []byte{192, 0}},
		{127, []byte{127}, []byte{255, 0}},
		{128, []byte{128, 1}, []byte{128, 1}},
		{8191, []byte{255, 63}, []byte{255, 63}},
		{8192, []byte{128, 64}, []byte{128, 192, 0}},
		{16383, []byte{255, 127}, []byte{255, 255, 0}},
		{16384, []byte{128, 128, 1}, []byte{128, 128, 1}},
		{624485, []byte{229, 142, 38}, []byte{229, 142, 38}},
		{math.MaxInt, repeat(255, 8, 127), repeat(255, 9, 0)},
		{-1, repeat(255, 9, 1), []byte{127}},
		{-64, append([]byte{192}, repeat(255, 8, 1)...), []byte{64}},
		{-65, append([]byte{191}, repeat(255, 8, 1)...), []byte{191, 127}},
		{-123456, append([]byte{192, 187, 248}, repeat(255, 6, 1)...), []byte{192, 187, 120}},
		{math.MinInt, repeat(128, 9, 1), repeat(128, 9, 127)},
	} {
		if b := leb.Uleb(c.n); !bytes.Equal(b, c.uleb) {
			t.Errorf("Uleb(%d): %v; want %v", c.n, b, c.uleb)
		}
		if b := leb.Sleb(c.n); !bytes.Equal(b, c.sleb) {
			t.Errorf("Sleb(%d): %v; want %v", c.n, b, c.sleb)
		}
	}
}

// groupsOf: the true number that groups of seven bits stand for, and whether all bytes but the last one have 128.
func groupsOf(b []byte) (*big.Int, bool) {
	sum, right := new(big.Int), len(b) > 0
	for i, x := range b {
		sum.Add(sum, new(big.Int).Mul(big.NewInt(int64(x&127)), power(7*i)))
		right = right && (x >= 128) == (i < len(b)-1)
	}
	return sum, right
}

func TestP104Groups(t *testing.T) {
	for _, n := range edges() {
		b := leb.Uleb(n)
		if sum, right := groupsOf(b); !right || sum.Cmp(signless(n, 64)) != 0 {
			t.Errorf("Uleb(%d): %v", n, b)
		}
		b = leb.Sleb(n)
		sum, right := groupsOf(b)
		if !right || (b[len(b)-1]&64 != 0) != (n < 0) || sum.Cmp(signless(n, 7*len(b))) != 0 {
			t.Errorf("Sleb(%d): %v", n, b)
		}
	}
}

// leastUleb, leastSleb: how few groups of seven bits hold a number.
func leastUleb(n int) int {
	k := 1
	for signless(n, 64).Cmp(power(7*k)) >= 0 {
		k++
	}
	return k
}

func leastSleb(n int) int {
	k := 1
	for !between(n, new(big.Int).Neg(power(7*k-1)), new(big.Int).Sub(power(7*k-1), big.NewInt(1))) {
		k++
	}
	return k
}

func TestP104AsFewBytesAsMayBe(t *testing.T) {
	for _, n := range edges() {
		if b := leb.Uleb(n); len(b) != leastUleb(n) {
			t.Errorf("Uleb(%d): %v; want %d bytes", n, b, leastUleb(n))
		}
		if b := leb.Sleb(n); len(b) != leastSleb(n) {
			t.Errorf("Sleb(%d): %v; want %d bytes", n, b, leastSleb(n))
		}
	}
}

type readCase struct {
	b      []byte
	at     int
	n, end int
	e      api.Errno
}

type readCall func([]byte, int) (int, int, api.Errno)

func checkReads(t *testing.T, name string, read readCall, l []readCase) {
	for _, c := range l {
		if n, end, e := read(c.b, c.at); n != c.n || end != c.end || e != c.e {
			t.Errorf("%s(%v, %d): %d, %d, %d; want %d, %d, %d", name, c.b, c.at, n, end, e, c.n, c.end, c.e)
		}
	}
}

func TestP105ReadUleb(t *testing.T) {
	checkReads(t, "ReadUleb", leb.ReadUleb, []readCase{
		{[]byte{0}, 0, 0, 1, 0},
		{[]byte{127}, 0, 127, 1, 0},
		{[]byte{128, 0}, 0, 0, 2, 0},
		{[]byte{9, 229, 142, 38, 9}, 1, 624485, 4, 0},
		{repeat(128, 9, 0), 0, 0, 10, 0},
		{repeat(255, 8, 127), 0, math.MaxInt, 9, 0},
		{repeat(255, 9, 0), 0, math.MaxInt, 10, 0},
		{repeat(255, 9, 1), 0, -1, 10, 0},
		{repeat(128, 9, 1, 255), 0, math.MinInt, 10, 0},
		{repeat(128, 9, 2), 0, 0, 0, api.ErrLeb},
		{repeat(128, 9, 3), 0, 0, 0, api.ErrLeb},
		{repeat(255, 9, 127), 0, 0, 0, api.ErrLeb},
	})
}

func TestP105ReadSleb(t *testing.T) {
	checkReads(t, "ReadSleb", leb.ReadSleb, []readCase{
		{[]byte{0}, 0, 0, 1, 0},
		{[]byte{63}, 0, 63, 1, 0},
		{[]byte{64}, 0, -64, 1, 0},
		{[]byte{127}, 0, -1, 1, 0},
		{[]byte{128, 0}, 0, 0, 2, 0},
		{[]byte{255, 127}, 0, -1, 2, 0},
		{[]byte{255, 0}, 0, 127, 2, 0},
		{[]byte{9, 192, 187, 120, 9}, 1, -123456, 4, 0},
		{repeat(128, 8, 64), 0, -1 << 62, 9, 0},
		{repeat(255, 8, 63), 0, 1<<62 - 1, 9, 0},
		{repeat(128, 9, 0), 0, 0, 10, 0},
		{repeat(255, 9, 0), 0, math.MaxInt, 10, 0},
		{repeat(255, 9, 127), 0, -1, 10, 0},
		{repeat(128, 9, 127, 255), 0, math.MinInt, 10, 0},
		{repeat(128, 9, 126), 0, 0, 0, api.ErrLeb},
	})
}

// TestP105TenthByte: each tenth byte that ends a number, above nine of two kinds.
func TestP105TenthByte(t *testing.T) {
	for _, below := range []byte{128, 255} {
		for last := range byte(128) {
			b := repeat(below, 9, last)
			if _, _, e := leb.ReadUleb(b, 0); (e == api.OK) != (last <= 1) || e != api.OK && e != api.ErrLeb {
				t.Errorf("ReadUleb(%v, 0): %d", b, e)
			}
			if _, _, e := leb.ReadSleb(b, 0); (e == api.OK) != (last == 0 || last == 127) || e != api.OK && e != api.ErrLeb {
				t.Errorf("ReadSleb(%v, 0): %d", b, e)
			}
		}
	}
}

func TestP105Ends(t *testing.T) {
	long := []readCase{
		{nil, 0, 0, 0, api.ErrEnd},
		{[]byte{}, 0, 0, 0, api.ErrEnd},
		{[]byte{128}, 0, 0, 0, api.ErrEnd},
		{[]byte{5}, 1, 0, 0, api.ErrEnd},
		{[]byte{5}, 2, 0, 0, api.ErrEnd},
		{[]byte{5}, -1, 0, 0, api.ErrEnd},
		{[]byte{5}, math.MinInt, 0, 0, api.ErrEnd},
		{[]byte{5}, math.MaxInt, 0, 0, api.ErrEnd},
		{repeat(255, 9), 0, 0, 0, api.ErrEnd},
		{repeat(128, 10), 0, 0, 0, api.ErrEnd},
		{repeat(255, 10), 0, 0, 0, api.ErrEnd},
		{repeat(128, 11), 0, 0, 0, api.ErrLeb},
		{repeat(255, 11), 0, 0, 0, api.ErrLeb},
		{repeat(255, 11), 1, 0, 0, api.ErrEnd},
		{repeat(128, 10, 0), 0, 0, 0, api.ErrLeb},
		{repeat(128, 10, 1), 0, 0, 0, api.ErrLeb},
		{repeat(255, 10, 127), 0, 0, 0, api.ErrLeb},
		{repeat(255, 40), 0, 0, 0, api.ErrLeb},
	}
	checkReads(t, "ReadUleb", leb.ReadUleb, long)
	checkReads(t, "ReadSleb", leb.ReadSleb, long)
}

// TestP105LongerThanNeeded: a number with groups behind it that add nothing, up to ten in all.
func TestP105LongerThanNeeded(t *testing.T) {
	for _, n := range edges() {
		checkLonger(t, "ReadUleb", leb.ReadUleb, n, leb.Uleb(n), 0)
		fill := byte(0)
		if n < 0 {
			fill = 127
		}
		checkLonger(t, "ReadSleb", leb.ReadSleb, n, leb.Sleb(n), fill)
	}
}

func checkLonger(t *testing.T, name string, read readCall, n int, b []byte, fill byte) {
	for len(b) < 10 {
		b[len(b)-1] |= 128
		b = append(b, fill)
		if got, end, e := read(b, 0); got != n || end != len(b) || e != api.OK {
			t.Errorf("%s(%v, 0): %d, %d, %d; want %d", name, b, got, end, e, n)
		}
	}
}

func TestP108ReadOfWritten(t *testing.T) {
	around := [][]byte{nil, {0}, {255}, {128, 128}, repeat(255, 12), repeat(0, 12)}
	for _, n := range edges() {
		for _, ahead := range around {
			for _, behind := range around {
				checkBack(t, "ReadUleb", leb.ReadUleb, n, leb.Uleb(n), ahead, behind)
				checkBack(t, "ReadSleb", leb.ReadSleb, n, leb.Sleb(n), ahead, behind)
			}
		}
	}
}

func checkBack(t *testing.T, name string, read readCall, n int, b, ahead, behind []byte) {
	all := bytes.Join([][]byte{ahead, b, behind}, nil)
	if got, end, e := read(all, len(ahead)); got != n || end != len(ahead)+len(b) || e != api.OK {
		t.Errorf("%s(%v, %d): %d, %d, %d; want %d", name, all, len(ahead), got, end, e, n)
	}
}

// TestP109NoShorterOnes: of all numbers that are read of one, two or three bytes, the fewest that are read as it.
func TestP109NoShorterOnes(t *testing.T) {
	for low := range byte(128) {
		for middle := range byte(128) {
			for high := range byte(128) {
				b := []byte{low | 128, middle | 128, high}
				checkShortest(t, "ReadUleb", leb.ReadUleb, leb.Uleb, b)
				checkShortest(t, "ReadSleb", leb.ReadSleb, leb.Sleb, b)
			}
		}
	}
}

// checkShortest: of three bytes those that tell nothing are taken off the end, as long as the number stays.
func checkShortest(t *testing.T, name string, read readCall, write func(int) []byte, b []byte) {
	n, _, _ := read(b, 0)
	least := 3
	if m, _, _ := read([]byte{b[0], b[1] & 127}, 0); m == n {
		least = 2
	}
	if m, _, _ := read([]byte{b[0] & 127}, 0); m == n {
		least = 1
	}
	if got := write(n); len(got) != least {
		t.Fatalf("%s: %d is written as %v; %d bytes are enough", name, n, got, least)
	}
}

func TestP109AByteLess(t *testing.T) {
	for _, n := range edges() {
		b := leb.Uleb(n)
		if got, end, e := leb.ReadUleb(b[:len(b)-1], 0); got != 0 || end != 0 || e != api.ErrEnd {
			t.Errorf("ReadUleb of a byte less of %d: %d, %d, %d", n, got, end, e)
		}
		checkEndedEarlier(t, "ReadUleb", leb.ReadUleb, n, b)
		b = leb.Sleb(n)
		if got, end, e := leb.ReadSleb(b[:len(b)-1], 0); got != 0 || end != 0 || e != api.ErrEnd {
			t.Errorf("ReadSleb of a byte less of %d: %d, %d, %d", n, got, end, e)
		}
		checkEndedEarlier(t, "ReadSleb", leb.ReadSleb, n, b)
	}
}

// checkEndedEarlier: bytes that are read as the same number have the same low groups, so shorter ones could only be these, ended earlier.
func checkEndedEarlier(t *testing.T, name string, read readCall, n int, b []byte) {
	for k := 1; k < len(b); k++ {
		short := append(bytes.Clone(b[:k-1]), b[k-1]&127)
		if got, _, e := read(short, 0); e == api.OK && got == n {
			t.Errorf("%s: %v is read as %d, too, beside %v", name, short, n, b)
		}
	}
}
