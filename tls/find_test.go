package tls_test

import (
	"math"
	"slices"
	"testing"

	"gangway/api"
	"gangway/tls"
)

func TestP2103Find(t *testing.T) {
	global := []byte{0x66, 0x48, 0x8d, 0x3d, 1, 2, 3, 4, 0x66, 0x66, 0x48, 0xe8, 5, 6, 7, 8}
	local := []byte{0x48, 0x8d, 0x3d, 1, 2, 3, 4, 0xe8, 5, 6, 7, 8}
	initial := []byte{0x4c, 0x8b, 0x0d, 1, 2, 3, 4}
	checkFind(t, global, 4, api.RTlsgd, tls.Global, 0, 16, api.OK)
	checkFind(t, local, 3, api.RTlsld, tls.Local, 0, 12, api.OK)
	checkFind(t, initial, 3, api.RGotTpoff, tls.Initial, 0, 7, api.OK)
	checkFind(t, initial, 3, api.RTpoff32, tls.Exec, 3, 4, api.OK)
	checkFind(t, initial, 0, api.RTpoff32, tls.Exec, 0, 4, api.OK)
	all := slices.Concat(global, initial, local, global)
	checkFind(t, all, 4, api.RTlsgd, tls.Global, 0, 16, api.OK)
	checkFind(t, all, 19, api.RGotTpoff, tls.Initial, 16, 7, api.OK)
	checkFind(t, all, 26, api.RTlsld, tls.Local, 23, 12, api.OK)
	checkFind(t, all, 39, api.RTlsgd, tls.Global, 35, 16, api.OK)
	// A Global's bytes from the second one on begin as Local's do, but the call is not where Local has it.
	checkFind(t, all, 4, api.RTlsld, 0, 0, 0, api.ErrTls)
	checkFind(t, all, 19, api.RTlsgd, 0, 0, 0, api.ErrTls)
	checkFind(t, all, 19, api.RTlsld, 0, 0, 0, api.ErrTls)
	checkFind(t, all, 26, api.RGotTpoff, 0, 0, 0, api.ErrTls)
	// The second hole is the call's, not the access's own.
	checkFind(t, global, 12, api.RTlsgd, 0, 0, 0, api.ErrTls)
	checkFind(t, local, 8, api.RTlsld, 0, 0, 0, api.ErrTls)
}

// TestP2103EachByte: each byte of a sequence as any other one.
func TestP2103EachByte(t *testing.T) {
	for _, r := range rows() {
		if r.reg%5 > 0 {
			continue
		}
		for k := range r.from {
			for x := range 256 {
				b := filled(r.from, 0x55667788)
				b[k] = byte(x)
				model, from, size, e := modelFind(b, firstHole(r.from), r.kind)
				checkFind(t, b, firstHole(r.from), r.kind, model, from, size, e)
			}
		}
	}
}

// TestP2103Ends: what is missing of a sequence at its begin or end; Exec asks for no more than its 4 bytes.
func TestP2103Ends(t *testing.T) {
	for _, r := range rows() {
		whole := filled(r.from, -1)
		hole := firstHole(r.from)
		for cut := range len(whole) + 1 {
			model, from, size, e := modelFind(whole[:cut], hole, r.kind)
			checkFind(t, whole[:cut], hole, r.kind, model, from, size, e)
			model, from, size, e = modelFind(whole[cut:], hole-cut, r.kind)
			checkFind(t, whole[cut:], hole-cut, r.kind, model, from, size, e)
		}
		if r.model != tls.Exec {
			checkFind(t, whole[:len(whole)-1], hole, r.kind, 0, 0, 0, api.ErrTls)
			checkFind(t, whole[1:], hole-1, r.kind, 0, 0, 0, api.ErrTls)
		}
	}
	for length := range 8 {
		for at := -5; at < 10; at++ {
			b := numbered(length)
			if at >= 0 && at+4 <= length {
				checkFind(t, b, at, api.RTpoff32, tls.Exec, at, 4, api.OK)
			} else {
				checkFind(t, b, at, api.RTpoff32, 0, 0, 0, api.ErrTls)
			}
		}
	}
}

// TestP2103Places: each place of a row of accesses, and places far away.
func TestP2103Places(t *testing.T) {
	var all []byte
	for _, r := range rows() {
		all = append(all, filled(r.from, 0x48000066)...)
	}
	far := []int{math.MinInt, math.MinInt + 1, math.MinInt + 4, -1 << 32, 1 << 32, 1<<32 + 4, math.MaxInt - 16, math.MaxInt - 4, math.MaxInt - 3, math.MaxInt}
	for at := -20; at < len(all)+20; at++ {
		far = append(far, at)
	}
	found := 0
	for _, at := range far {
		for _, kind := range types() {
			model, from, size, e := modelFind(all, at, kind)
			checkFind(t, all, at, kind, model, from, size, e)
			if e == api.OK && model != tls.Exec {
				found++
			}
		}
	}
	if found != 18 {
		t.Error(found)
	}
}

// TestP2103Types: those of other relocations, that of the call among them.
func TestP2103Types(t *testing.T) {
	for _, r := range rows() {
		b := filled(r.from, 0)
		for _, kind := range strange() {
			checkFind(t, b, firstHole(r.from), kind, 0, 0, 0, api.ErrTls)
			checkRelax(t, b, firstHole(r.from), kind, 0, nil, api.ErrTls)
		}
	}
	checkFind(t, filled(rows()[0].from, 0), 12, api.RPlt32, 0, 0, 0, api.ErrTls)
}
