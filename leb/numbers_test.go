package leb_test

import (
	"bytes"
	"math"
	"math/big"
	"testing"

	"gangway/api"
	"gangway/leb"
)

func TestP102PutExamples(t *testing.T) {
	for _, c := range []struct {
		n, size int
		want    []byte
		e       api.Errno
	}{
		{258, 2, []byte{2, 1}, 0},
		{-1, 4, []byte{255, 255, 255, 255}, 0},
		{256, 1, nil, api.ErrRange},
		{255, 1, []byte{255}, 0},
		{0, 1, []byte{0}, 0},
		{-128, 1, []byte{128}, 0},
		{-129, 1, nil, api.ErrRange},
		{65535, 2, []byte{255, 255}, 0},
		{65536, 2, nil, api.ErrRange},
		{-32768, 2, []byte{0, 128}, 0},
		{-32769, 2, nil, api.ErrRange},
		{1<<32 - 1, 4, []byte{255, 255, 255, 255}, 0},
		{1 << 32, 4, nil, api.ErrRange},
		{-1 << 31, 4, []byte{0, 0, 0, 128}, 0},
		{-1<<31 - 1, 4, nil, api.ErrRange},
		{0x0102030405060708, 8, []byte{8, 7, 6, 5, 4, 3, 2, 1}, 0},
		{math.MinInt, 8, []byte{0, 0, 0, 0, 0, 0, 0, 128}, 0},
		{math.MaxInt, 8, []byte{255, 255, 255, 255, 255, 255, 255, 127}, 0},
		{math.MaxInt, 3, nil, api.ErrArg},
	} {
		if b, e := leb.Put(c.n, c.size); !bytes.Equal(b, c.want) || e != c.e {
			t.Errorf("Put(%d, %d): %v, %d; want %v, %d", c.n, c.size, b, e, c.want, c.e)
		}
	}
}

func TestP102PutAtAllEdges(t *testing.T) {
	for _, size := range []int{1, 2, 4, 8} {
		low := new(big.Int).Neg(power(8*size - 1))
		high := new(big.Int).Sub(power(8*size), big.NewInt(1))
		for _, n := range edges() {
			b, e := leb.Put(n, size)
			if !between(n, low, high) {
				if e != api.ErrRange || len(b) != 0 {
					t.Errorf("Put(%d, %d): %v, %d; want ErrRange", n, size, b, e)
				}
				continue
			}
			want := signless(n, 8*size).FillBytes(make([]byte, size))
			for i, x := range want {
				if e != api.OK || len(b) != size || b[size-1-i] != x {
					t.Fatalf("Put(%d, %d): %v, %d; want %v turned round", n, size, b, e, want)
				}
			}
		}
	}
}

func TestP102PutWrongSize(t *testing.T) {
	for _, size := range append(wild(), 6, 12, 32) {
		if isOneOf(size, 1, 2, 4, 8) {
			continue
		}
		for _, n := range edges() {
			if b, e := leb.Put(n, size); e != api.ErrArg || len(b) != 0 {
				t.Errorf("Put(%d, %d): %v, %d; want ErrArg", n, size, b, e)
			}
		}
	}
}

func TestP103GetExamples(t *testing.T) {
	b := []byte{255, 1, 128, 0, 0, 128, 255, 255, 255, 127}
	for _, c := range []struct {
		at, size int
		signed   bool
		want     int
		e        api.Errno
	}{
		{0, 1, true, -1, 0},
		{0, 1, false, 255, 0},
		{1, 1, true, 1, 0},
		{2, 1, true, -128, 0},
		{2, 1, false, 128, 0},
		{9, 1, true, 127, 0},
		{0, 2, true, 511, 0},
		{4, 2, true, -32768, 0},
		{4, 2, false, 32768, 0},
		{2, 4, true, -1<<31 + 128, 0},
		{2, 4, false, 1<<31 + 128, 0},
		{6, 4, true, math.MaxInt32, 0},
		{0, 8, true, -0x7fffff7ffe01, 0},
		{0, 8, false, -0x7fffff7ffe01, 0},
		{2, 8, false, 0x7fffffff80000080, 0},
		{2, 8, true, 0x7fffffff80000080, 0},
		{10, 1, false, 0, api.ErrEnd},
		{9, 2, false, 0, api.ErrEnd},
		{7, 4, true, 0, api.ErrEnd},
		{3, 8, true, 0, api.ErrEnd},
		{-1, 1, false, 0, api.ErrEnd},
		{-1, 3, false, 0, api.ErrArg},
	} {
		if n, e := leb.Get(b, c.at, c.size, c.signed); n != c.want || e != c.e {
			t.Errorf("Get(.., %d, %d, %v): %#x, %d; want %#x, %d", c.at, c.size, c.signed, n, e, c.want, c.e)
		}
	}
}

func TestP103GetOfAllBytes(t *testing.T) {
	b := make([]byte, 300)
	for i := range b {
		b[i] = byte(i * 151)
	}
	for _, size := range []int{1, 2, 4, 8} {
		for at := -3; at < len(b)+3; at++ {
			for _, signed := range []bool{false, true} {
				n, e := leb.Get(b, at, size, signed)
				if at < 0 || at+size > len(b) {
					if n != 0 || e != api.ErrEnd {
						t.Errorf("Get(.., %d, %d, %v): %d, %d; want ErrEnd", at, size, signed, n, e)
					}
					continue
				}
				want := new(big.Int)
				for i := range size {
					want.Add(want, new(big.Int).Mul(big.NewInt(int64(b[at+i])), power(8*i)))
				}
				if (signed || size == 8) && want.Cmp(power(8*size-1)) >= 0 {
					want.Sub(want, power(8*size))
				}
				if e != api.OK || want.Cmp(big.NewInt(int64(n))) != 0 {
					t.Errorf("Get(.., %d, %d, %v): %d, %d; want %v", at, size, signed, n, e, want)
				}
			}
		}
	}
}

func TestP103GetWrongArguments(t *testing.T) {
	for _, b := range [][]byte{nil, {}, {1}, repeat(7, 7), repeat(7, 8)} {
		for _, at := range wild() {
			for _, size := range wild() {
				want := api.ErrArg
				if isOneOf(size, 1, 2, 4, 8) {
					if at >= 0 && at <= len(b) && size <= len(b)-at {
						continue
					}
					want = api.ErrEnd
				}
				for _, signed := range []bool{false, true} {
					if n, e := leb.Get(b, at, size, signed); n != 0 || e != want {
						t.Errorf("Get(%v, %d, %d, %v): %d, %d; want %d", b, at, size, signed, n, e, want)
					}
				}
			}
		}
	}
}

func TestP108GetOfPut(t *testing.T) {
	for _, size := range []int{1, 2, 4, 8} {
		for _, n := range edges() {
			b, e := leb.Put(n, size)
			if e != api.OK {
				continue
			}
			if got, e := leb.Get(b, 0, size, n < 0); got != n || e != api.OK {
				t.Errorf("Get of Put(%d, %d): %d, %d", n, size, got, e)
			}
			if got, e := leb.Get(b, 0, size, n >= 0); size == 8 && (got != n || e != api.OK) {
				t.Errorf("Get of Put(%d, 8), the other way: %d, %d", n, got, e)
			}
		}
	}
}
