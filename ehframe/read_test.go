package ehframe_test

import (
	"bytes"
	"math"
	"slices"
	"testing"

	"gangway/api"
	"gangway/cfa"
	"gangway/ehframe"
)

func TestP1405Examples(t *testing.T) {
	checkRead(t, make([]byte, 4), 0, nil, nil, api.OK)
	checkNoTable(t, make([]byte, 5), 0)
	checkRead(t, nil, 0, nil, nil, api.OK)
	checkRead(t, record(usualCie), 0, cies(usual(27)), nil, api.OK)
}

func TestP1405Arguments(t *testing.T) {
	checkRead(t, make([]byte, api.MaxBytes+1), -1, nil, nil, api.ErrSize)
	for _, addr := range []int{-1, start + 1, far, math.MinInt, math.MaxInt} {
		checkRead(t, make([]byte, api.MaxBytes), addr, nil, nil, api.ErrRange)
		checkRead(t, nil, addr, nil, nil, api.ErrRange)
	}
	checkNoTable(t, make([]byte, api.MaxBytes), start)
	checkRead(t, record(usualCie), start, cies(usual(27)), nil, api.OK)
}

// TestP1405Ends: a length 0 ends the table where it is the last 4 bytes, and nowhere else.
func TestP1405Ends(t *testing.T) {
	whole := record(usualCie)
	for n := range 20 {
		b := join(whole, make([]byte, n))
		if n == 0 || n == 4 {
			checkRead(t, b, 0, cies(usual(27)), nil, api.OK)
		} else {
			checkNoTable(t, b, 0)
		}
		if n > 0 {
			checkNoTable(t, join(make([]byte, n), whole), 0)
			checkNoTable(t, join(whole, make([]byte, n), whole), 0)
		}
	}
	checkNoTable(t, digits("01 00 00 00"), 0)
	checkNoTable(t, digits("04 00 00 00"), 0)
	checkNoTable(t, digits("00 00 00"), 0)
	checkNoTable(t, digits("00 00 00 01"), 0)
}

// TestP1405Whole: no table ends, or begins, within a record.
func TestP1405Whole(t *testing.T) {
	b := join(record(usualCie), record("1c 00 00 00, e0 0f 00 00, 06 00 00 00, 00, 00 00 00 00 00 00 00"))
	checkRead(t, b, 0, cies(usual(27)), fdes(fde(0, 4096, 6)), api.OK)
	for n := 1; n < len(b); n++ {
		if n != 24 {
			checkNoTable(t, b[:n], 0)
		}
		// The last 4 bytes are an end.
		if n != len(b)-4 {
			checkNoTable(t, b[n:], 0)
		}
	}
	// Lengths that are wrong.
	for _, length := range []uint32{0, 4, 8, 12, 16, 21, 22, 23, 24, 28, 40, 1 << 20, 1 << 31, 0xfffffffc, 0xffffffff} {
		wrong := bytes.Clone(b)
		for k := range 4 {
			wrong[k] = byte(length >> (8 * k))
		}
		checkNoTable(t, wrong, 0)
		wrong = bytes.Clone(b)
		for k := range 4 {
			wrong[24+k] = byte(length >> (8 * k))
		}
		if length == 16 {
			// It may be shorter: the rest of it is then an end that is the last 4 bytes.
			checkRead(t, wrong, 0, cies(usual(27)), fdes(fde(0, 4096, 6)), api.OK)
		} else {
			checkNoTable(t, wrong, 0)
		}
	}
}

// TestP1405MultipleOf4: with each number of Nops behind, the length must be one.
func TestP1405MultipleOf4(t *testing.T) {
	const cie = "00 00 00 00, 01, 7a 52 00, 01, 78, 10, 01, 02, 0c 07 08, 90 01"
	for n := range 40 {
		b := join(record(cie, "00 00"), record("1c 00 00 00, 01 00, 02 00, 00", string(bytes.Repeat([]byte("00"), n))))
		if (9+n)%4 == 0 {
			checkRead(t, b, 0, cies(usual(ehframe.U2)), fdes(fde(0, 1, 2)), api.OK)
		} else {
			checkNoTable(t, b, 0)
		}
		b = record(cie, string(bytes.Repeat([]byte("00"), n)))
		if (18+n)%4 == 0 {
			checkRead(t, b, 0, cies(usual(ehframe.U2)), nil, api.OK)
		} else {
			checkNoTable(t, b, 0)
		}
	}
}

// TestP1405ManyNops: any number of them, more than there may be ops, too.
func TestP1405ManyNops(t *testing.T) {
	cie := record(usualCie)
	for _, n := range []int{api.MaxRows - 8, api.MaxRows, 2 * api.MaxRows, 100000} {
		zeros := string(bytes.Repeat([]byte("00"), n))
		b := join(cie, record("1c 00 00 00, e0 0f 00 00, 06 00 00 00, 00, 41 0e 10", zeros))
		checkRead(t, b, 0, cies(usual(27)), fdes(fde(0, 4096, 6, advance(1), defOffset(16))), api.OK)
		checkRead(t, record(usualCie, zeros), 0, cies(usual(27)), nil, api.OK)
	}
	// Those that other ops follow are ops.
	for _, n := range []int{mostOps - 2, mostOps - 1, mostOps, mostRows - 1, mostRows, mostRows + 1} {
		body := join(digits("1c 00 00 00, e0 0f 00 00, 06 00 00 00, 00"), make([]byte, n), []byte{0x41})
		b := join(cie, padded(body))
		if n < mostOps {
			checkRead(t, b, 0, cies(usual(27)), fdes(fde(0, 4096, 6, append(nops(n), advance(1))...)), api.OK)
		} else {
			checkNoTable(t, b, 0)
		}
	}
}

// TestP1405ZerosOfOps: bytes 0 at the end that belong to the last op are no Nops.
func TestP1405ZerosOfOps(t *testing.T) {
	for _, c := range []struct {
		bytes string
		last  cfa.Op
	}{
		{"40", advance(0)}, {"02 00", advance(0)}, {"03 00 00", advance(0)}, {"04 00 00 00 00", advance(0)}, {"04 01 00 00 00", advance(1)},
		{"03 02 00", advance(2)}, {"0c 00 00", defCfa(0, 0)}, {"0c 80 00 80 80 00", defCfa(0, 0)}, {"0e 00", defOffset(0)}, {"0d 00", cfa.Op{Kind: cfa.DefRegister}},
		{"80 00", offset(0, 0)}, {"83 00", offset(3, 0)}, {"11 00 00", offset(0, 0)}, {"11 03 7f", offset(3, 8)}, {"05 00 00", offset(0, 0)},
		{"06 00", cfa.Op{Kind: cfa.Restore}}, {"c0", cfa.Op{Kind: cfa.Restore}}, {"07 00", cfa.Op{Kind: cfa.Undefined}}, {"08 00", sameValue(0)}, {"0a", cfa.Op{Kind: cfa.Remember}},
	} {
		for _, ahead := range []int{0, 1, 3} {
			for zeros := range 9 {
				texts := string(bytes.Repeat([]byte("00"), ahead)) + c.bytes + string(bytes.Repeat([]byte("00"), zeros))
				body := record("1c 00 00 00, e0 0f 00 00, 06 00 00 00, 00", texts)
				if len(body)%4 != 0 {
					continue
				}
				checkRead(t, join(record(usualCie), body), 0, cies(usual(27)), fdes(fde(0, 4096, 6, append(nops(ahead), c.last)...)), api.OK)
			}
		}
	}
	// An op that is not whole, even if more bytes follow the record.
	for _, short := range []string{"00 00 04", "04 00 00", "00 02 00 04 00 00 00", "00 00 0c", "00 0c 00", "0c 80 00", "00 00 11", "11 80 00", "00 00 0e"} {
		b := record("1c 00 00 00, e0 0f 00 00, 06 00 00 00, 00", short)
		checkNoTable(t, join(record(usualCie), b), 0)
		checkNoTable(t, join(record(usualCie), b, make([]byte, 4)), 0)
	}
}

// TestP1405EachByteOfACie: each byte ahead of the encoding is just as said.
func TestP1405EachByteOfACie(t *testing.T) {
	right := record(usualCie)
	for at := 8; at < 16; at++ {
		for x := range 256 {
			b := bytes.Clone(right)
			if int(b[at]) == x {
				continue
			}
			b[at] = byte(x)
			checkNoTable(t, b, 0)
		}
	}
	for x := range 256 {
		b := bytes.Clone(right)
		b[16] = byte(x)
		if slices.Contains(encodings(), x) {
			checkRead(t, b, 0, cies(usual(x)), nil, api.OK)
		} else {
			checkNoTable(t, b, 0)
		}
	}
}

// TestP1405LongNumbers: ULEB128 and SLEB128 may have more bytes than they take; the single bytes may not.
func TestP1405LongNumbers(t *testing.T) {
	cieWith := func(middle string) []byte {
		return padded(digits("00 00 00 00, 01, 7a 52 00,", middle, "1b, 0c 07 08, 90 01"))
	}
	for _, middle := range []string{"81 00, 78, 10, 01", "81 80 80 00, 78, 10, 01", "01, f8 7f, 10, 01", "01, f8 ff ff 7f, 10, 01", "81 80 80 80 80 80 80 80 80 00, f8 ff ff ff ff ff ff ff ff 7f, 10, 01"} {
		checkRead(t, cieWith(middle), 0, cies(usual(27)), nil, api.OK)
	}
	for _, middle := range []string{
		"01, 78, 90 00, 01", "01, 78, 10, 81 00", "81 80 80 80 80 80 80 80 80 80 00, 78, 10, 01", "01, f8 ff ff ff ff ff ff ff ff ff 7f, 10, 01",
		"81 80 80 80 80 80 80 80 80 02, 78, 10, 01", "82 00, 78, 10, 01", "01, f8 00, 10, 01", "01, f7 7f, 10, 01", "01, 80 78, 10, 01", "81 01, 78, 10, 01",
	} {
		checkNoTable(t, cieWith(middle), 0)
	}

	fdeWith := func(enc byte, middle string) []byte {
		first := record(usualCie)
		first[16] = enc
		return join(first, padded(digits("1c 00 00 00,", middle, "00")))
	}
	checkRead(t, fdeWith(ehframe.Uleb, "85 80 00, 83 00"), 0, cies(usual(ehframe.Uleb)), fdes(fde(0, 5, 3)), api.OK)
	checkRead(t, fdeWith(ehframe.Sleb, "fb ff 7f, 83 80 00"), 0, cies(usual(ehframe.Sleb)), fdes(fde(0, -5, 3)), api.OK)
	checkRead(t, fdeWith(ehframe.Pcrel+ehframe.Sleb, "fb ff 7f, 83 80 00"), 100, cies(usual(ehframe.Pcrel+ehframe.Sleb)), fdes(fde(0, 100+32-5, 3)), api.OK)
	checkNoTable(t, fdeWith(ehframe.U2, "05 00, 03 00, 80"), 0)
	checkNoTable(t, fdeWith(ehframe.Sleb, "05, 7f"), 0)
	checkNoTable(t, fdeWith(ehframe.Uleb, "05, ff ff ff ff ff ff ff ff ff 01"), 0)
	checkNoTable(t, fdeWith(ehframe.Uleb, "ff ff ff ff ff ff ff ff ff 01, 05"), 0)
	checkNoTable(t, fdeWith(ehframe.Uleb, "05, 81 80 40"), 0)
	checkRead(t, fdeWith(ehframe.Uleb, "05, 80 80 40"), 0, cies(usual(ehframe.Uleb)), fdes(fde(0, 5, api.MaxBytes)), api.OK)
}

// TestP1405Pointers: what Get refuses, and what is behind the record's end, is no Begin and no Size.
func TestP1405Pointers(t *testing.T) {
	tableOf := func(enc byte, body string) []byte {
		first := record(usualCie)
		first[16] = enc
		return join(first, record("1c 00 00 00", body))
	}
	const zero8 = "00 00 00 00 00 00 00 00"
	checkRead(t, tableOf(ehframe.S8, "00 00 00 00 00 00 00 10,"+zero8+"00 00 00 00"), 0, cies(usual(ehframe.S8)), fdes(fde(0, far, 0)), api.OK)
	checkNoTable(t, tableOf(ehframe.S8, "01 00 00 00 00 00 00 10,"+zero8+"00 00 00 00"), 0)
	checkNoTable(t, tableOf(ehframe.U8, "ff ff ff ff ff ff ff ff,"+zero8+"00 00 00 00"), 0)
	checkRead(t, tableOf(ehframe.S8, "ff ff ff ff ff ff ff ff,"+zero8+"00 00 00 00"), 0, cies(usual(ehframe.S8)), fdes(fde(0, -1, 0)), api.OK)
	checkRead(t, tableOf(ehframe.Datarel+ehframe.S8, "00 00 00 00 00 00 00 10,"+zero8+"00 00 00 00"), start, cies(usual(ehframe.Datarel+ehframe.S8)), fdes(fde(0, far, 0)), api.OK)
	checkNoTable(t, tableOf(ehframe.Pcrel+ehframe.S8, "00 00 00 00 00 00 00 10,"+zero8+"00 00 00 00"), 0)
	checkNoTable(t, tableOf(ehframe.Pcrel+ehframe.S8, "e1 ff ff ff ff ff ff 0f,"+zero8+"00 00 00 00"), 0)
	checkRead(t, tableOf(ehframe.Pcrel+ehframe.S8, "e0 ff ff ff ff ff ff 0f,"+zero8+"00 00 00 00"), 0, cies(usual(ehframe.Pcrel+ehframe.S8)), fdes(fde(0, far, 0)), api.OK)
	checkNoTable(t, tableOf(ehframe.S8, zero8+"ff ff ff ff ff ff ff ff, 00 00 00 00"), 0)
	checkNoTable(t, tableOf(ehframe.S8, zero8+"01 00 10 00 00 00 00 00, 00 00 00 00"), 0)
	checkRead(t, tableOf(ehframe.S8, zero8+"00 00 10 00 00 00 00 00, 00 00 00 00"), 0, cies(usual(ehframe.S8)), fdes(fde(0, 0, api.MaxBytes)), api.OK)
	// Records that end early, with more behind them.
	for _, body := range []string{"", "00 00 00 00", zero8, zero8 + "00 00 00 00", zero8 + zero8} {
		checkNoTable(t, join(tableOf(ehframe.S8, body), record("00 00 00 00")), 0)
		checkNoTable(t, join(tableOf(ehframe.S8, body), make([]byte, 4)), 0)
		checkNoTable(t, tableOf(ehframe.S8, body), 0)
	}
	// The byte behind Size is 0.
	for x := 1; x < 256; x++ {
		b := tableOf(ehframe.U2, "01 00, 02 00, 00, 00 00 00")
		b[24+12] = byte(x)
		checkNoTable(t, b, 0)
	}
}

// TestP1405Ids: they lead back to the first byte of a CIE that stands ahead.
func TestP1405Ids(t *testing.T) {
	// CIEs at 0 and 40, FDEs at 24 and 64.
	table := func(first, second uint32) []byte {
		b := join(record(usualCie), record("00 00 00 00, 01 00, 02 00, 00, 00 00 00"), record(usualCie), record("00 00 00 00, 03 00, 04 00, 00, 00 00 00"))
		b[16], b[40+16] = ehframe.U2, ehframe.Datarel+ehframe.S2
		for k := range 4 {
			b[28+k], b[68+k] = byte(first>>(8*k)), byte(second>>(8*k))
		}
		return b
	}
	both := cies(usual(ehframe.U2), usual(ehframe.Datarel+ehframe.S2))
	checkRead(t, table(28, 28), 0, both, fdes(fde(0, 1, 2), fde(1, 3, 4)), api.OK)
	checkRead(t, table(28, 68), 0, both, fdes(fde(0, 1, 2), fde(0, 3, 4)), api.OK)
	for id := range uint32(100) {
		if id != 28 && id != 68 {
			checkNoTable(t, table(28, id), 0)
		}
		if id != 28 {
			checkNoTable(t, table(id, 28), 0)
		}
	}
	// 40 farther on: a CIE that stands behind.
	behind := uint32(0xfffffff4)
	checkNoTable(t, table(behind, 28), 0)
	checkNoTable(t, table(1<<31, 28), 0)
	checkNoTable(t, table(0xffffffff, 28), 0)
}

// TestP1405Mixed: FDEs stand anywhere behind their CIEs; all keep their order.
func TestP1405Mixed(t *testing.T) {
	cieOf := func(enc byte) []byte {
		b := record(usualCie)
		b[16] = enc
		return b
	}
	b := join(cieOf(ehframe.U2), cieOf(ehframe.S2), // 0, 24
		record("1c 00 00 00, 01 00, 02 00, 00, 00 00 00"), // 48: of 24
		record("44 00 00 00, 03 00, 04 00, 00, 00 00 00"), // 64: of 0
		cieOf(ehframe.Uleb), // 80
		record("54 00 00 00, ff ff, 06 00, 00, 00 00 00"),  // 104: of 24
		record("2c 00 00 00, 81 01, 06, 00"),               // 120: of 80
		record("88 00 00 00, ff ff, 06 00, 00, 41, 0e 10"), // 132: of 0
		make([]byte, 4))
	checkRead(t, b, 77, cies(usual(ehframe.U2), usual(ehframe.S2), usual(ehframe.Uleb)),
		fdes(fde(1, 1, 2), fde(0, 3, 4), fde(1, -1, 6), fde(2, 129, 6), fde(0, 65535, 6, advance(1), defOffset(16))), api.OK)
}

// TestP1405Ops: those that do not Read, and those that may not be.
func TestP1405Ops(t *testing.T) {
	for _, body := range []string{
		"01 00 00", "3f 00 00", "09 00 00", "0c 07 80", "00 00 91", "d1 00 00", "0d 11 00", // these do not Read
		"0b 00 00", "47 00 00", "43 44 00", // Recall, rows above the size
	} {
		checkNoTable(t, join(record(usualCie), record("1c 00 00 00, e0 0f 00 00, 06 00 00 00, 00", body)), 0)
	}
	for _, body := range []string{"", "0e 10", "90 01", "00 00", "0c 07 08, 40", "0c 07 08, 41", "0c 07 08, 0a", "0c 07 08, 0b", "0c 07 08, c3", "0c 11 08", "00 00 0c"} {
		checkNoTable(t, padded(digits("00 00 00 00, 01, 7a 52 00, 01, 78, 10, 01, 1b", body)), 0)
	}
}

func TestP1405TooMany(t *testing.T) {
	one := record(usualCie)
	full := bytes.Repeat(one, mostRows)
	checkRead(t, full, 0, slices.Repeat(cies(usual(27)), mostRows), nil, api.OK)
	checkNoTable(t, join(full, one), 0)

	b := bytes.Clone(one)
	b[16] = ehframe.U2
	for k := range mostRows + 1 {
		if k == mostRows {
			checkRead(t, b, 0, cies(usual(ehframe.U2)), slices.Repeat(fdes(fde(0, 1, 2)), mostRows), api.OK)
		}
		id := len(b) + 4
		b = append(b, 12, 0, 0, 0, byte(id), byte(id>>8), byte(id>>16), 0, 1, 0, 2, 0, 0, 0, 0, 0)
	}
	checkNoTable(t, b, 0)

	same := string(bytes.Repeat([]byte("08 03"), mostOps-2))
	checkRead(t, record("00 00 00 00, 01, 7a 52 00, 01, 78, 10, 01, 1b, 0c 07 08, 90 01,", same, "00 00"), 0,
		cies(ehframe.Cie{Enc: 27, Initial: usualWith(slices.Repeat(ops(sameValue(3)), mostOps-2)...)}), nil, api.OK)
	checkNoTable(t, record("00 00 00 00, 01, 7a 52 00, 01, 78, 10, 01, 1b, 0c 07 08, 90 01,", same, "08 03"), 0)
}
