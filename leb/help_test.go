package leb_test

import (
	"bytes"
	"math"
	"math/big"
)

// edges: numbers about which something changes: 0, and both sides of each power of 2, with both signs.
func edges() []int {
	l := []int{0, math.MinInt, math.MinInt + 1, math.MaxInt, 624485, -123456, 0x123456789abcdef, -0x123456789abcdef}
	for k := range 63 {
		p := 1 << k
		l = append(l, p-1, p, p+1, -p-1, -p, -p+1)
	}
	return l
}

// wild: places, sizes and counts that nobody should ask for, beside some that they may.
func wild() []int {
	return []int{math.MinInt, math.MinInt + 1, -1 << 32, -65, -64, -9, -8, -2, -1, 0, 1, 2, 3, 4, 5, 7, 8, 9, 10, 11, 16, 63, 64, 65, 1 << 30, 1 << 31, 1 << 32, math.MaxInt - 8, math.MaxInt - 1, math.MaxInt}
}

func power(k int) *big.Int { return new(big.Int).Lsh(big.NewInt(1), uint(k)) }

// between: whether low <= n <= high, as true numbers.
func between(n int, low, high *big.Int) bool {
	b := big.NewInt(int64(n))
	return b.Cmp(low) >= 0 && b.Cmp(high) <= 0
}

// signless: a number as one without a sign of so many bits.
func signless(n, bits int) *big.Int {
	b := big.NewInt(int64(n))
	if n < 0 {
		b.Add(b, power(bits))
	}
	return b
}

func repeat(x byte, n int, behind ...byte) []byte {
	return append(bytes.Repeat([]byte{x}, n), behind...)
}

func isOneOf(n int, l ...int) bool {
	for _, x := range l {
		if n == x {
			return true
		}
	}
	return false
}
