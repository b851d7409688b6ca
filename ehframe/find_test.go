package ehframe_test

import (
	"math"
	"math/big"
	"testing"

	"gangway/ehframe"
)

func checkFind(t *testing.T, f []ehframe.Fde, pc, want int, wantIs bool) {
	t.Helper()
	if k, is := ehframe.Find(f, pc); k != want || is != wantIs {
		t.Errorf("Find of %v, %d: %d, %v; want %d, %v", shown(f), pc, k, is, want, wantIs)
	}
}

func TestP1406Examples(t *testing.T) {
	f := fdes(fde(0, 10, 10), fde(0, 15, 15))
	for pc, want := range map[int]int{10: 0, 16: 0, 19: 0, 20: 1, 29: 1} {
		checkFind(t, f, pc, want, true)
	}
	for _, pc := range []int{-1, 0, 9, 30, 31, math.MinInt, math.MaxInt} {
		checkFind(t, f, pc, 0, false)
	}
	checkFind(t, nil, 0, 0, false)
}

// TestP1406First: in the order of the list, whatever their addresses.
func TestP1406First(t *testing.T) {
	f := fdes(fde(0, 50, 10), fde(0, 50, 0), fde(0, 10, 100), fde(0, 52, 2), fde(0, 0, 11))
	for pc, want := range map[int]int{50: 0, 53: 0, 59: 0, 60: 2, 49: 2, 10: 2, 9: 4, 0: 4, 109: 2} {
		checkFind(t, f, pc, want, true)
	}
	checkFind(t, f, 110, 0, false)
	checkFind(t, f, -1, 0, false)
	checkFind(t, fdes(fde(0, 5, 0)), 5, 0, false)
	checkFind(t, fdes(fde(0, 5, 0)), 4, 0, false)
}

// TestP1406Wild: Begin and Size together are as they truly are, even of entries that may not be.
func TestP1406Wild(t *testing.T) {
	l := []int{math.MinInt, math.MinInt + 1, -far, -2, -1, 0, 1, 2, far, math.MaxInt - 1, math.MaxInt}
	for _, begin := range l {
		for _, size := range l {
			for _, pc := range l {
				end := new(big.Int).Add(big.NewInt(int64(begin)), big.NewInt(int64(size)))
				is := begin <= pc && big.NewInt(int64(pc)).Cmp(end) < 0
				checkFind(t, fdes(fde(0, begin, size)), pc, 0, is)
				want := 0
				if is {
					want = 1
				}
				checkFind(t, fdes(fde(0, pc, 0), fde(0, begin, size)), pc, want, is)
			}
		}
	}
}
