package tls_test

import (
	"math"
	"slices"
	"testing"

	"gangway/api"
	"gangway/tls"
)

func TestP2104Relax(t *testing.T) {
	base := []byte{0x64, 0x48, 0x8b, 0x04, 0x25, 0, 0, 0, 0}
	global := []byte{102, 72, 141, 61, 0, 0, 0, 0, 102, 102, 72, 232, 0, 0, 0, 0}
	checkRelax(t, global, 4, api.RTlsgd, -8, slices.Concat(base, []byte{72, 141, 128, 248, 255, 255, 255}), api.OK)
	checkRelax(t, global, 4, api.RTlsgd, 0x11223344, slices.Concat(base, []byte{72, 141, 128, 0x44, 0x33, 0x22, 0x11}), api.OK)
	local := []byte{0x48, 0x8d, 0x3d, 0, 0, 0, 0, 0xe8, 0, 0, 0, 0}
	checkRelax(t, local, 3, api.RTlsld, 0, slices.Concat(base, []byte{0x90, 0x90, 0x90}), api.OK)
	checkRelax(t, []byte{76, 139, 13, 0, 0, 0, 0}, 3, api.RGotTpoff, -16, []byte{73, 199, 193, 240, 255, 255, 255}, api.OK)
	checkRelax(t, []byte{0x48, 0x8b, 0x3d, 9, 9, 9, 9}, 3, api.RGotTpoff, 0x11223344, []byte{0x48, 0xc7, 0xc7, 0x44, 0x33, 0x22, 0x11}, api.OK)
	checkRelax(t, []byte{0x49, 0xc7, 0xc1, 0, 0, 0, 0}, 3, api.RTpoff32, -16, []byte{73, 199, 193, 240, 255, 255, 255}, api.OK)
	checkRelax(t, []byte{1, 2, 3, 4, 5, 6}, 1, api.RTpoff32, -1, []byte{1, 255, 255, 255, 255, 6}, api.OK)
	checkRelax(t, global, 3, api.RTlsgd, 0, nil, api.ErrTls)
	checkRelax(t, []byte{76, 139, 13, 0, 0, 0, 0}, 3, api.RTlsgd, 0, nil, api.ErrTls)
}

// TestP2104Offsets: what fits into 4 bytes with a sign; of Local too, where it counts for nothing beside that.
func TestP2104Offsets(t *testing.T) {
	for _, r := range rows() {
		b := filled(r.from, 0)
		for _, n := range offsets() {
			checkModel(t, b, firstHole(r.from), r.kind, n)
		}
		checkRelax(t, b, firstHole(r.from), r.kind, 1<<31, nil, api.ErrOverflow)
		checkRelax(t, b, firstHole(r.from), r.kind, -1<<31-1, nil, api.ErrOverflow)
		for _, n := range []int{1<<31 - 1, -1 << 31} {
			if _, e := tls.Relax(b, firstHole(r.from), r.kind, n); e != api.OK {
				t.Error(r, n, e)
			}
		}
	}
}

// TestP2104Size: 2^20 bytes and one more; an access at the very end.
func TestP2104Size(t *testing.T) {
	for _, r := range rows() {
		piece := filled(r.from, 0)
		b := append(numbered(api.MaxBytes+1-len(piece)), piece...)
		at := api.MaxBytes + 1 - len(piece) + firstHole(r.from)
		model, from, size, _ := modelFind(b, at, r.kind)
		checkFind(t, b, at, r.kind, model, from, size, api.OK)
		checkRelax(t, b, at, r.kind, 0, nil, api.ErrSize)
		want, _ := modelRelax(b[1:], at-1, r.kind, -77)
		checkRelax(t, b[1:], at-1, r.kind, -77, want, api.OK)
	}
}

// TestP2104Order: of two errors the first one.
func TestP2104Order(t *testing.T) {
	large := make([]byte, api.MaxBytes+1)
	checkRelax(t, large, 0, 0, 0, nil, api.ErrSize)
	checkRelax(t, large, -1, api.RTpoff32, 1<<31, nil, api.ErrSize)
	checkRelax(t, large[1:], 0, 0, 1<<31, nil, api.ErrTls)
	checkRelax(t, large[1:], -1, api.RTpoff32, 1<<31, nil, api.ErrTls)
	checkRelax(t, large[1:], 4, api.RTlsgd, math.MaxInt, nil, api.ErrTls)
	checkRelax(t, large[1:], 0, api.RTpoff32, 1<<31, nil, api.ErrOverflow)
}
