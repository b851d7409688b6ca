package tls_test

import (
	"bytes"
	"math"
	"testing"

	"gangway/api"
)

func TestP2105Block(t *testing.T) {
	checkBlock(t, []byte{7, 8, 9}, 12, 8, []byte{7, 8, 9, 0, 0, 0, 0, 0, 0, 0, 0, 0, 0, 0, 0, 0, 0, 0, 0, 0, 0, 0, 0, 0}, 16, api.OK)
	checkBlock(t, nil, 0, 1, make([]byte, 8), 0, api.OK)
	checkBlock(t, nil, 0, 4096, make([]byte, 8), 0, api.OK)
	checkBlock(t, nil, 1, 4096, make([]byte, 4104), 4096, api.OK)
	checkBlock(t, []byte{7}, 1, 1, []byte{7, 0, 0, 0, 0, 0, 0, 0, 0}, 1, api.OK)
	checkBlock(t, []byte{7, 8}, 2, 2, []byte{7, 8, 0, 0, 0, 0, 0, 0, 0, 0}, 2, api.OK)
	checkBlock(t, []byte{7, 8}, 3, 2, []byte{7, 8, 0, 0, 0, 0, 0, 0, 0, 0, 0, 0}, 4, api.OK)
}

// TestP2105Aligns: powers of 2 from 1 to 4096 and no others.
func TestP2105Aligns(t *testing.T) {
	aligns := []int{math.MinInt, math.MinInt + 1, -1 << 32, -4096, -8, -1, 1 << 13, 1 << 14, 1 << 16, 1 << 30, 1 << 31, 1 << 32, 1<<32 + 1, 1 << 62, math.MaxInt}
	for n := range 200 {
		aligns = append(aligns, n)
	}
	for n := range 14 {
		aligns = append(aligns, 1<<n-1, 1<<n, 1<<n+1, -1<<n)
	}
	for _, align := range aligns {
		for _, size := range []int{5, 6, 64, 4095, 4096, 4097} {
			want, fs, e := modelBlock(numbered(5), size, align)
			checkBlock(t, numbered(5), size, align, want, fs, e)
		}
	}
}

// TestP2105Sizes: from the data's on, up to 2^20.
func TestP2105Sizes(t *testing.T) {
	for _, size := range []int{math.MinInt, -1 << 32, -8, -1, 0, 1, 2, 3, 1<<20 + 1, 1<<20 + 4096, 1 << 32, 1<<32 + 8, math.MaxInt - 4096, math.MaxInt} {
		want, fs, e := modelBlock([]byte{7, 8, 9}, size, 8)
		checkBlock(t, []byte{7, 8, 9}, size, 8, want, fs, e)
	}
	checkBlock(t, []byte{7, 8, 9}, 2, 8, nil, 0, api.ErrArg)
	checkBlock(t, nil, -1, 8, nil, 0, api.ErrArg)
	for _, align := range []int{1, 8, 4096} {
		checkBlock(t, []byte{7}, api.MaxBytes, align, append([]byte{7}, make([]byte, api.MaxBytes+7)...), api.MaxBytes, api.OK)
		checkBlock(t, []byte{7}, api.MaxBytes-1, align, nextOf(align), len(nextOf(align))-8, api.OK)
		checkBlock(t, []byte{7}, api.MaxBytes+1, align, nil, 0, api.ErrArg)
	}
	full := bytes.Repeat([]byte{0xab}, api.MaxBytes)
	checkBlock(t, full, api.MaxBytes, 64, append(bytes.Clone(full), make([]byte, 8)...), api.MaxBytes, api.OK)
	checkBlock(t, append(full, 1), api.MaxBytes, 64, nil, 0, api.ErrArg)
	checkBlock(t, append(full, 1), api.MaxBytes+1, 64, nil, 0, api.ErrArg)
}

// nextOf is the block of one byte 7 with a size of 2^20 - 1.
func nextOf(align int) []byte {
	n := api.MaxBytes - 1
	for n%align != 0 {
		n++
	}
	return append([]byte{7}, make([]byte, n+7)...)
}
