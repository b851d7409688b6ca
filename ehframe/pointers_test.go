package ehframe_test

import (
	"math"
	"testing"

	"gangway/api"
	"gangway/ehframe"
)

func TestP1401Examples(t *testing.T) {
	checkPut(t, ehframe.Pcrel+ehframe.S4, 4096, 4100, 0, digits("fc ff ff ff"), api.OK)
	checkPut(t, ehframe.U2, 65536, 0, 0, nil, api.ErrRange)
	checkPut(t, 13, 0, 0, 0, nil, api.ErrFrame)
	checkGet(t, digits("fc ff ff ff"), 0, ehframe.Pcrel+ehframe.S4, 4100, 0, 4096, 4, api.OK)
}

func TestP1401Bytes(t *testing.T) {
	for _, c := range []struct {
		enc, v int
		want   string
	}{
		{ehframe.Abs, 258, "02 01 00 00 00 00 00 00"},
		{ehframe.Abs, -2, "fe ff ff ff ff ff ff ff"},
		{ehframe.Uleb, 0, "00"},
		{ehframe.Uleb, 624485, "e5 8e 26"},
		{ehframe.U2, 258, "02 01"},
		{ehframe.U4, 258, "02 01 00 00"},
		{ehframe.U8, 258, "02 01 00 00 00 00 00 00"},
		{ehframe.Sleb, -123456, "c0 bb 78"},
		{ehframe.Sleb, 64, "c0 00"},
		{ehframe.S2, -2, "fe ff"},
		{ehframe.S4, -2, "fe ff ff ff"},
		{ehframe.S8, -2, "fe ff ff ff ff ff ff ff"},
		{ehframe.U8, far, "00 00 00 00 00 00 00 10"},
		{ehframe.S8, far, "00 00 00 00 00 00 00 10"},
		{ehframe.S8, -far, "00 00 00 00 00 00 00 f0"},
		{ehframe.Uleb, far, "80 80 80 80 80 80 80 80 10"},
		{ehframe.Sleb, -far, "80 80 80 80 80 80 80 80 70"},
	} {
		b := digits(c.want)
		checkPut(t, c.enc, c.v, 77, 99, b, api.OK)
		checkGet(t, b, 0, c.enc, 77, 99, c.v, len(b), api.OK)
	}
}

// TestP1401Fits: the ends of what each kind has room for.
func TestP1401Fits(t *testing.T) {
	for _, c := range []struct{ enc, least, most int }{
		{ehframe.Abs, -far, far}, {ehframe.Uleb, 0, far}, {ehframe.U2, 0, 65535}, {ehframe.U4, 0, 1<<32 - 1}, {ehframe.U8, 0, far},
		{ehframe.Sleb, -far, far}, {ehframe.S2, -32768, 32767}, {ehframe.S4, -1 << 31, 1<<31 - 1}, {ehframe.S8, -far, far},
	} {
		for _, v := range []int{c.least, c.most} {
			if _, e := ehframe.Put(c.enc, v, 0, 0); e != api.OK {
				t.Error(c, v, e)
			}
		}
		checkPut(t, c.enc, c.least-1, 0, 0, nil, api.ErrRange)
		checkPut(t, c.enc, c.most+1, 0, 0, nil, api.ErrRange)
		// What stands there is what must fit, not the pointer.
		const base = 1 << 40
		for _, n := range []int{c.least, c.most} {
			if v := base + n; v >= -far && v <= far {
				if _, e := ehframe.Put(ehframe.Pcrel+c.enc, v, base, 0); e != api.OK {
					t.Error(c, v, e)
				}
				if _, e := ehframe.Put(ehframe.Datarel+c.enc, v, 0, base); e != api.OK {
					t.Error(c, v, e)
				}
			}
		}
		if c.most < far {
			checkPut(t, ehframe.Pcrel+c.enc, base+c.most+1, base, 0, nil, api.ErrRange)
			checkPut(t, ehframe.Datarel+c.enc, base+c.most+1, 0, base, nil, api.ErrRange)
		}
		if c.least > -far {
			checkPut(t, ehframe.Pcrel+c.enc, base+c.least-1, base, 0, nil, api.ErrRange)
			checkPut(t, ehframe.Datarel+c.enc, base+c.least-1, 0, base, nil, api.ErrRange)
		}
	}
}

// TestP1401From: Pcrel takes off the pointer's own address, Datarel data, the others nothing.
func TestP1401From(t *testing.T) {
	checkPut(t, ehframe.S2, 1000, 300, 20, digits("e8 03"), api.OK)
	checkPut(t, ehframe.Pcrel+ehframe.S2, 1000, 300, 20, digits("bc 02"), api.OK)
	checkPut(t, ehframe.Datarel+ehframe.S2, 1000, 300, 20, digits("d4 03"), api.OK)
	checkPut(t, ehframe.Pcrel+ehframe.Uleb, 1000, 990, 20, digits("0a"), api.OK)
	checkPut(t, ehframe.Pcrel+ehframe.Uleb, 1000, 1001, 20, nil, api.ErrRange)
	checkPut(t, ehframe.Datarel+ehframe.Sleb, 1000, 0, 1001, digits("7f"), api.OK)
}

// TestP1401Ranges: v, at and data are asked, used or not; what must stand there is, too.
func TestP1401Ranges(t *testing.T) {
	for _, enc := range encodings() {
		for _, wild := range []int{far + 1, -far - 1, math.MaxInt, math.MinInt} {
			checkPut(t, enc, wild, 0, 0, nil, api.ErrRange)
			checkPut(t, enc, 0, wild, 0, nil, api.ErrRange)
			checkPut(t, enc, 0, 0, wild, nil, api.ErrRange)
			checkPut(t, enc, wild, wild, wild, nil, api.ErrRange)
		}
		for _, edge := range []int{far, -far} {
			if _, e := ehframe.Put(enc, edge, edge, edge); e != api.OK && enc >= 16 {
				t.Error(enc, edge, e)
			}
		}
	}
	for _, kind := range []int{ehframe.Abs, ehframe.S8, ehframe.Sleb} {
		checkPut(t, ehframe.Pcrel+kind, far, -1, 0, nil, api.ErrRange)
		checkPut(t, ehframe.Pcrel+kind, -far, 1, 0, nil, api.ErrRange)
		checkPut(t, ehframe.Datarel+kind, far, 0, -1, nil, api.ErrRange)
		checkPut(t, ehframe.Datarel+kind, -far, 0, 1, nil, api.ErrRange)
		checkPut(t, ehframe.Pcrel+kind, far, -far, 0, nil, api.ErrRange)
		checkPut(t, ehframe.Datarel+kind, -far, 0, far, nil, api.ErrRange)
	}
	for _, kind := range []int{ehframe.U8, ehframe.Uleb} {
		checkPut(t, ehframe.Pcrel+kind, far, -1, 0, nil, api.ErrRange)
		checkPut(t, ehframe.Datarel+kind, far, 0, -far, nil, api.ErrRange)
	}
}

// TestP1401Encodings: just 27 numbers are encodings, whatever else is wrong.
func TestP1401Encodings(t *testing.T) {
	right := map[int]int{}
	for _, enc := range encodings() {
		right[enc]++
	}
	if len(right) != 27 {
		t.Fatal(right)
	}
	l := []int{math.MinInt, math.MaxInt, 256, 512, 1 << 32, 1<<32 + 27, 1<<40 + 16, -1 << 40, math.MinInt + 16}
	for enc := -300; enc < 600; enc++ {
		l = append(l, enc)
	}
	for _, enc := range l {
		_, e := ehframe.Put(enc, 0, 0, 0)
		v, end, e2 := ehframe.Get(make([]byte, 8), 0, enc, 0, 0)
		want := api.OK
		if right[enc] == 0 {
			want = api.ErrFrame
			checkPut(t, enc, far+1, far+1, far+1, nil, api.ErrFrame)
			checkGet(t, nil, -1, enc, far+1, far+1, 0, 0, api.ErrFrame)
		}
		if e != want || e2 != want || v != 0 || (end == 0) != (e2 != api.OK) {
			t.Error(enc, e, v, end, e2)
		}
	}
}

func TestP1402Get(t *testing.T) {
	b := digits("99, 02 01 00 00 ff ff ff ff, 99")
	for _, c := range []struct{ enc, v, end int }{
		{ehframe.Uleb, 2, 2}, {ehframe.Sleb, 2, 2},
		{ehframe.U2, 258, 3}, {ehframe.S2, 258, 3},
		{ehframe.U4, 258, 5}, {ehframe.S4, 258, 5},
	} {
		checkGet(t, b, 1, c.enc, 1000, 50, c.v, c.end, api.OK)
		checkGet(t, b, 1, ehframe.Pcrel+c.enc, 1000, 50, 1001+c.v, c.end, api.OK)
		checkGet(t, b, 1, ehframe.Datarel+c.enc, 1000, 50, 50+c.v, c.end, api.OK)
	}
	checkGet(t, b, 5, ehframe.U4, 0, 0, 1<<32-1, 9, api.OK)
	checkGet(t, b, 5, ehframe.S4, 0, 0, -1, 9, api.OK)
	checkGet(t, b, 5, ehframe.U2, 0, 0, 65535, 7, api.OK)
	checkGet(t, b, 5, ehframe.S2, 0, 0, -1, 7, api.OK)
	checkGet(t, b, 7, ehframe.Sleb, 0, 0, 0, 0, api.ErrEnd)
}

// TestP1402LebsErrors: those of leb come behind those of the arguments, and ahead of those of what is read.
func TestP1402LebsErrors(t *testing.T) {
	eight := make([]byte, 8)
	for _, s := range shapes() {
		for _, from := range []int{0, ehframe.Pcrel, ehframe.Datarel} {
			enc := s.enc + from
			for _, at := range []int{-1, 8, 9, math.MaxInt, math.MinInt} {
				checkGet(t, eight, at, enc, 0, 0, 0, 0, api.ErrEnd)
				checkGet(t, eight, at, enc, far, far, 0, 0, api.ErrEnd)
				checkGet(t, eight, at, enc, far+1, 0, 0, 0, api.ErrRange)
				checkGet(t, eight, at, enc, 0, -far-1, 0, 0, api.ErrRange)
				checkGet(t, nil, at, enc, 0, 0, 0, 0, api.ErrEnd)
			}
			last, v := 8-max(s.size, 1), 0
			if from == ehframe.Pcrel {
				v = last
			}
			checkGet(t, eight, last, enc, 0, 0, v, 8, api.OK)
			checkGet(t, eight, last+1, enc, 0, 0, 0, 0, api.ErrEnd)
		}
	}
	long := digits("80 80 80 80 80 80 80 80 80 80 00")
	wide := digits("80 80 80 80 80 80 80 80 80 02")
	for _, enc := range []int{ehframe.Uleb, ehframe.Sleb, ehframe.Pcrel + ehframe.Uleb, ehframe.Datarel + ehframe.Sleb} {
		checkGet(t, long, 0, enc, 0, 0, 0, 0, api.ErrLeb)
		checkGet(t, wide, 0, enc, 0, 0, 0, 0, api.ErrLeb)
		checkGet(t, long[:10], 0, enc, 0, 0, 0, 0, api.ErrEnd)
		checkGet(t, long, 0, enc, far+1, 0, 0, 0, api.ErrRange)
	}
	// A number may have more bytes than it takes.
	checkGet(t, digits("81 80 00"), 0, ehframe.Uleb, 0, 0, 1, 3, api.OK)
	checkGet(t, digits("ff ff 7f"), 0, ehframe.Sleb, 0, 0, -1, 3, api.OK)
}

// TestP1402WhatStandsThere is asked, even if the pointer would be right.
func TestP1402WhatStandsThere(t *testing.T) {
	for _, c := range []struct {
		enc  int
		b    []byte
		want int
		e    api.Errno
	}{
		{ehframe.U8, digits("00 00 00 00 00 00 00 10"), far, api.OK},
		{ehframe.U8, digits("01 00 00 00 00 00 00 10"), 0, api.ErrRange},
		{ehframe.U8, digits("ff ff ff ff ff ff ff 7f"), 0, api.ErrRange},
		{ehframe.U8, digits("00 00 00 00 00 00 00 80"), 0, api.ErrRange},
		{ehframe.U8, digits("00 00 00 00 00 00 00 f0"), 0, api.ErrRange},
		{ehframe.U8, digits("ff ff ff ff ff ff ff ff"), 0, api.ErrRange},
		{ehframe.S8, digits("00 00 00 00 00 00 00 10"), far, api.OK},
		{ehframe.S8, digits("01 00 00 00 00 00 00 10"), 0, api.ErrRange},
		{ehframe.S8, digits("00 00 00 00 00 00 00 f0"), -far, api.OK},
		{ehframe.S8, digits("ff ff ff ff ff ff ff ef"), 0, api.ErrRange},
		{ehframe.S8, digits("00 00 00 00 00 00 00 80"), 0, api.ErrRange},
		{ehframe.S8, digits("ff ff ff ff ff ff ff ff"), -1, api.OK},
		{ehframe.Abs, digits("00 00 00 00 00 00 00 f0"), -far, api.OK},
		{ehframe.Abs, digits("ff ff ff ff ff ff ff ef"), 0, api.ErrRange},
		{ehframe.Abs, digits("ff ff ff ff ff ff ff ff"), -1, api.OK},
		{ehframe.Uleb, digits("80 80 80 80 80 80 80 80 10"), far, api.OK},
		{ehframe.Uleb, digits("81 80 80 80 80 80 80 80 10"), 0, api.ErrRange},
		{ehframe.Uleb, digits("80 80 80 80 80 80 80 80 80 01"), 0, api.ErrRange},
		{ehframe.Uleb, digits("ff ff ff ff ff ff ff ff ff 01"), 0, api.ErrRange},
		{ehframe.Sleb, digits("80 80 80 80 80 80 80 80 10"), far, api.OK},
		{ehframe.Sleb, digits("81 80 80 80 80 80 80 80 10"), 0, api.ErrRange},
		{ehframe.Sleb, digits("80 80 80 80 80 80 80 80 70"), -far, api.OK},
		{ehframe.Sleb, digits("ff ff ff ff ff ff ff ff 6f"), 0, api.ErrRange},
	} {
		end := len(c.b)
		if c.e != api.OK {
			end = 0
			// 2^60 off, or on, may bring the pointer back into its range.
			checkGet(t, c.b, 0, ehframe.Pcrel+c.enc, -far, 0, 0, 0, api.ErrRange)
			checkGet(t, c.b, 0, ehframe.Pcrel+c.enc, far, 0, 0, 0, api.ErrRange)
			checkGet(t, c.b, 0, ehframe.Datarel+c.enc, 0, -far, 0, 0, api.ErrRange)
			checkGet(t, c.b, 0, ehframe.Datarel+c.enc, 0, far, 0, 0, api.ErrRange)
		}
		checkGet(t, c.b, 0, c.enc, 0, 0, c.want, end, c.e)
		checkGet(t, c.b, 0, ehframe.Pcrel+c.enc, 0, 7, c.want, end, c.e)
		checkGet(t, c.b, 0, ehframe.Datarel+c.enc, 7, 0, c.want, end, c.e)
	}
}

func TestP1402ThePointer(t *testing.T) {
	one, less := digits("01 00"), digits("ff ff")
	checkGet(t, one, 0, ehframe.Pcrel+ehframe.S2, far-1, 0, far, 2, api.OK)
	checkGet(t, one, 0, ehframe.Pcrel+ehframe.S2, far, 0, 0, 0, api.ErrRange)
	checkGet(t, less, 0, ehframe.Pcrel+ehframe.S2, far, 0, far-1, 2, api.OK)
	checkGet(t, less, 0, ehframe.Pcrel+ehframe.S2, -far, 0, 0, 0, api.ErrRange)
	checkGet(t, one, 0, ehframe.Datarel+ehframe.S2, 0, far, 0, 0, api.ErrRange)
	checkGet(t, less, 0, ehframe.Datarel+ehframe.S2, 0, -far, 0, 0, api.ErrRange)
	checkGet(t, less, 0, ehframe.Datarel+ehframe.S2, 0, far, far-1, 2, api.OK)
	// The place counts for the address of its own first byte, even beyond 2^60.
	checkGet(t, digits("00 00, fe ff"), 2, ehframe.Pcrel+ehframe.S2, far, 0, far, 4, api.OK)
	checkGet(t, digits("00 00, ff ff"), 2, ehframe.Pcrel+ehframe.S2, far, 0, 0, 0, api.ErrRange)
}

func TestP1402AddressesAreAsked(t *testing.T) {
	b := make([]byte, 8)
	for _, enc := range encodings() {
		for _, wild := range []int{far + 1, -far - 1, math.MaxInt, math.MinInt} {
			checkGet(t, b, 0, enc, wild, 0, 0, 0, api.ErrRange)
			checkGet(t, b, 0, enc, 0, wild, 0, 0, api.ErrRange)
		}
		for _, edge := range []int{far, -far} {
			if _, _, e := ehframe.Get(b, 0, enc, edge, edge); e != api.OK {
				t.Error(enc, edge, e)
			}
		}
	}
}
