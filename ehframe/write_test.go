package ehframe_test

import (
	"math"
	"slices"
	"testing"

	"gangway/api"
	"gangway/cfa"
	"gangway/ehframe"
)

func TestP1404Examples(t *testing.T) {
	c := cies(usual(ehframe.Pcrel + ehframe.S4))
	first := digits("14 00 00 00, ", usualCie)
	checkWrite(t, c, nil, 0, false, first, nil, api.OK)
	checkWrite(t, c, nil, 0, true, join(first, make([]byte, 4)), nil, api.OK)
	// Its Begin stands at 32.
	second := digits("14 00 00 00, 1c 00 00 00, e0 0f 00 00, 06 00 00 00, 00, 00 00 00 00 00 00 00")
	checkWrite(t, c, fdes(fde(0, 4096, 6)), 0, false, join(first, second), []int{24}, api.OK)
	checkWrite(t, c, fdes(fde(0, 4096+8192, 6)), 8192, true, join(first, second, make([]byte, 4)), []int{24}, api.OK)
}

func TestP1404Nothing(t *testing.T) {
	checkWrite(t, nil, nil, 0, false, nil, nil, api.OK)
	checkWrite(t, nil, nil, start, true, make([]byte, 4), nil, api.OK)
}

// TestP1404Order: each CIE and its FDEs in their order; at is in the order of what was handed in.
func TestP1404Order(t *testing.T) {
	c := cies(usual(ehframe.U2), ehframe.Cie{Enc: ehframe.Datarel + ehframe.Uleb, Initial: ops(defCfa(6, 16))}, ehframe.Cie{Enc: ehframe.Abs, Initial: usualWith(sameValue(3))})
	f := fdes(fde(2, -2, 5), fde(0, 1, 2), fde(2, 7, 8, advance(3)), fde(0, 3, 4), fde(1, 300, 200))
	want := join(
		record("00 00 00 00, 01, 7a 52 00, 01 78 10 01, 02, 0c 07 08, 90 01, 00 00"),
		record("1c 00 00 00, 01 00, 02 00, 00, 00 00 00"),
		record("2c 00 00 00, 03 00, 04 00, 00, 00 00 00"),
		record("00 00 00 00, 01, 7a 52 00, 01 78 10 01, 31, 0c 06 10, 00 00 00 00"),
		record("1c 00 00 00, ac 02, c8 01, 00, 00 00 00"),
		record("00 00 00 00, 01, 7a 52 00, 01 78 10 01, 00, 0c 07 08, 90 01, 08 03"),
		record("1c 00 00 00, fe ff ff ff ff ff ff ff, 05 00 00 00 00 00 00 00, 00, 00 00 00 00 00 00 00"),
		record("3c 00 00 00, 07 00 00 00 00 00 00 00, 08 00 00 00 00 00 00 00, 00, 43, 00 00 00 00 00 00"),
	)
	checkWrite(t, c, f, 5000, false, want, []int{24 + 16 + 16 + 24 + 16 + 24, 24, 24 + 16 + 16 + 24 + 16 + 24 + 32, 24 + 16, 24 + 16 + 16 + 24}, api.OK)
}

// TestP1404Encodings: Begin in each encoding, Size in that without Pcrel and Datarel.
func TestP1404Encodings(t *testing.T) {
	const addr = 1000
	for _, enc := range encodings() {
		// Begin stands at 1000 + 24 + 8.
		f := fde(0, 1040, 3)
		begin := 1040
		if enc >= 16 && enc < 48 {
			begin = 8
		}
		var stands, size []byte
		for _, s := range shapes() {
			if s.enc == enc%16 {
				stands, size = numberOf(s, begin), numberOf(s, 3)
			}
		}
		body := join([]byte{28, 0, 0, 0}, stands, size, []byte{0})
		for len(body)%8 != 4 {
			body = append(body, 0)
		}
		header := digits("14 00 00 00, 00 00 00 00, 01, 7a 52 00, 01, 78, 10, 01, 00, 0c 07 08, 90 01, 00 00")
		header[16] = byte(enc)
		checkWrite(t, cies(usual(enc)), fdes(f), addr, false, join(header, []byte{byte(len(body)), 0, 0, 0}, body), []int{24}, api.OK)
	}
}

// numberOf are the bytes of a small number.
func numberOf(s shape, n int) []byte {
	if s.size > 0 {
		return append([]byte{byte(n), byte(n >> 8)}, make([]byte, s.size-2)...)
	}
	if n < 64 {
		return []byte{byte(n)}
	}
	return []byte{byte(n)&127 | 128, byte(n >> 7)}
}

// TestP1404Fill: with each op more the record has as few bytes 0 behind as may be.
func TestP1404Fill(t *testing.T) {
	for n := range 30 {
		c := cies(usual(ehframe.U2))
		l := slices.Repeat(ops(cfa.Op{Kind: cfa.Remember}), n)
		body := slices.Repeat([]byte{10}, n)
		for (4+4+2+2+1+len(body))%8 != 0 {
			body = append(body, 0)
		}
		length := 4 + 2 + 2 + 1 + len(body)
		want := join([]byte{byte(length), 0, 0, 0}, digits("1c 00 00 00, 07 00, 09 00, 00"), body)
		b, at, e := ehframe.Write(c, fdes(fde(0, 7, 9, l...)), 0, false)
		if e != api.OK || !slices.Equal(b[24:], want) || !slices.Equal(at, []int{24}) {
			t.Errorf("%d ops: %x, %v, %d", n, b, at, e)
		}
		initial := usualWith(slices.Repeat(ops(sameValue(3)), n)...)
		b, _, e = ehframe.Write(cies(ehframe.Cie{Enc: 0, Initial: initial}), nil, 0, false)
		size := (22 + 2*n + 7) / 8 * 8
		if e != api.OK || len(b) != size || int(b[0]) != size-4 || slices.ContainsFunc(b[22+2*n:], func(x byte) bool { return x != 0 }) {
			t.Errorf("%d ops: %x, %d", n, b, e)
		}
	}
}

func TestP1404Errors(t *testing.T) {
	right := cies(usual(ehframe.U2))
	checkUnwritten(t, cies(usual(13)), nil, -1, api.ErrFrame)
	checkUnwritten(t, cies(ehframe.Cie{Enc: 0}), nil, -1, api.ErrCfa)
	checkUnwritten(t, slices.Repeat(right, mostRows+1), nil, -1, api.ErrSize)
	checkUnwritten(t, right, fdes(fde(1, 0, 0)), start+1, api.ErrFrame)
	for _, addr := range []int{-1, start + 1, far, math.MinInt, math.MaxInt} {
		checkUnwritten(t, right, fdes(fde(0, 1, 1)), addr, api.ErrRange)
		checkUnwritten(t, nil, nil, addr, api.ErrRange)
	}
	for _, addr := range []int{0, start} {
		if _, _, e := ehframe.Write(right, fdes(fde(0, 1, 1)), addr, true); e != api.OK {
			t.Error(addr, e)
		}
	}
}

func TestP1404Fits(t *testing.T) {
	both := func(enc, begin, size, addr int, want api.Errno) {
		t.Helper()
		f := fdes(fde(1, 0, 0), fde(0, begin, size))
		b, at, e := ehframe.Write(cies(usual(enc), usual(0)), f, addr, false)
		if e != want || (e == api.OK) != (len(b) > 0 && len(at) == 2) {
			t.Errorf("%d, %d, %d, %d: %x, %v, %d", enc, begin, size, addr, b, at, e)
		}
	}
	both(ehframe.U2, 65535, 65535, 0, api.OK)
	both(ehframe.U2, 65536, 0, 0, api.ErrRange)
	both(ehframe.U2, -1, 0, 0, api.ErrRange)
	both(ehframe.U2, 0, 65536, 0, api.ErrRange)
	both(ehframe.S2, 32767, 32767, 0, api.OK)
	both(ehframe.S2, -32768, 0, 0, api.OK)
	both(ehframe.S2, 0, 32768, 0, api.ErrRange)
	both(ehframe.S2, 32768, 0, 0, api.ErrRange)
	// Begin stands 32 bytes behind the section's first one.
	both(ehframe.Pcrel+ehframe.S2, 32767+32, 32767, 0, api.OK)
	both(ehframe.Pcrel+ehframe.S2, 32768+32, 0, 0, api.ErrRange)
	both(ehframe.Pcrel+ehframe.S2, 0, 32768, 0, api.ErrRange)
	both(ehframe.Pcrel+ehframe.U4, 31, 0, 0, api.ErrRange)
	both(ehframe.Pcrel+ehframe.U4, 32, 0, 0, api.OK)
	both(ehframe.Pcrel+ehframe.Uleb, 131, 0, 100, api.ErrRange)
	both(ehframe.Pcrel+ehframe.Uleb, 132, 0, 100, api.OK)
	both(ehframe.Datarel+ehframe.U2, 65535, 65535, start, api.OK)
	both(ehframe.Datarel+ehframe.U2, 65536, 0, 0, api.ErrRange)
	both(ehframe.Datarel+ehframe.Uleb, -1, 0, 0, api.ErrRange)
	both(ehframe.Pcrel+ehframe.S8, far, api.MaxBytes, start, api.OK)
	both(ehframe.Pcrel+ehframe.S8, -far+start+32, api.MaxBytes, start, api.OK)
	both(ehframe.Pcrel+ehframe.S8, -far+start+31, api.MaxBytes, start, api.ErrRange)
	both(ehframe.S8, -far, api.MaxBytes, start, api.OK)
}

// large is a table of so many whole 8 bytes (4 of them at least, in CIEs of 3 and up to some 500 of them).
func large(units int) []ehframe.Cie {
	var c []ehframe.Cie
	for units > 0 {
		n := min(units, 500)
		if units-n > 0 && units-n < 3 {
			n -= 3
		}
		// 22 bytes and two of each op more.
		c = append(c, ehframe.Cie{Enc: ehframe.U2, Initial: usualWith(slices.Repeat(ops(sameValue(3)), (8*n-22)/2)...)})
		units -= n
	}
	return c
}

func TestP1404Sizes(t *testing.T) {
	c := large(api.MaxBytes / 8)
	b, at, e := ehframe.Write(c, nil, 0, false)
	if e != api.OK || len(b) != api.MaxBytes || len(at) != 0 {
		t.Error(len(b), at, e)
	}
	checkWrite(t, c, nil, 0, true, nil, nil, api.ErrSize)
	c = large(api.MaxBytes/8 - 1)
	if b, _, e := ehframe.Write(c, nil, 0, true); e != api.OK || len(b) != api.MaxBytes-4 {
		t.Error(len(b), e)
	}
	checkUnwritten(t, large(api.MaxBytes/8+1), nil, 0, api.ErrSize)
	checkUnwritten(t, append(c, usual(0)), nil, 0, api.ErrSize)

	// An FDE of 16 bytes fills it up, or is too much.
	c = large(api.MaxBytes/8 - 2)
	if b, at, e := ehframe.Write(c, fdes(fde(len(c)-1, 1, 1)), 0, false); e != api.OK || len(b) != api.MaxBytes || !slices.Equal(at, []int{api.MaxBytes - 16}) {
		t.Error(len(b), at, e)
	}
	checkUnwritten(t, c, fdes(fde(len(c)-1, 1, 1), fde(0, 1, 1)), 0, api.ErrSize)
}

// TestP1404RangeAheadOfSize: a pointer that does not fit counts, even one far behind too many bytes.
func TestP1404RangeAheadOfSize(t *testing.T) {
	c := append(large(api.MaxBytes/4), usual(ehframe.Pcrel+ehframe.U4))
	last := len(c) - 1
	checkUnwritten(t, c, fdes(fde(0, 1, 1), fde(0, 1, 65536)), 0, api.ErrRange)
	checkUnwritten(t, c, fdes(fde(last, 0, 1)), 0, api.ErrRange)
	// The places behind are counted on: this one's Begin stands 2 MaxBytes + 32 behind the first byte.
	checkUnwritten(t, c, fdes(fde(last, 2*api.MaxBytes+32, 1)), 0, api.ErrSize)
	checkUnwritten(t, c, fdes(fde(last, 2*api.MaxBytes+31, 1)), 0, api.ErrRange)
	checkUnwritten(t, c, fdes(fde(last, 2*api.MaxBytes+32+99, 1)), 99, api.ErrSize)
	checkUnwritten(t, c, fdes(fde(last, 2*api.MaxBytes+31+99, 1)), 99, api.ErrRange)
}
