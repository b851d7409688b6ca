package lines_test

import (
	"bytes"
	"math/big"
	"slices"
	"strings"
	"testing"

	"gangway/api"
	"gangway/lines"
)

func TestP1503FirstPart(t *testing.T) {
	b, at := written(t, example())
	checkRead(t, b, example())
	// Each byte of it counts: but for those of the name any other one is wrong.
	for k := range at[0] - 3 {
		for x := range 256 {
			changed := bytes.Clone(b)
			changed[k] = byte(x)
			want := example()
			if k >= 39 && k < 42 && x != 0 {
				want.Files[0] = string(changed[39:42])
			} else if byte(x) != b[k] {
				checkUnread(t, changed, api.ErrLine)
				continue
			}
			checkRead(t, changed, want)
		}
	}
	for k := range b {
		checkUnread(t, b[:k], api.ErrLine)
		checkUnread(t, join(b[:k], b[k+1:]), api.ErrLine)
	}
	for _, behind := range [][]byte{{0}, {18}, end(), b} {
		checkUnread(t, join(b, behind), api.ErrLine)
	}
}

func TestP1503Files(t *testing.T) {
	for _, n := range []int{0, 1, 2, 127, 128, 254, 255} {
		checkRead(t, unit(names(n), nil), lines.Program{Files: names(n)})
	}
	for _, n := range []int{256, 257, 400} {
		checkUnread(t, unit(slices.Repeat([]string{"a"}, n), nil), api.ErrLine)
	}
	for _, name := range []string{"a", "\xff", strings.Repeat("x", 255)} {
		checkRead(t, unit([]string{"a", name, "b"}, nil), program("a "+name+" b"))
	}
	for _, name := range []string{"", strings.Repeat("x", 256), strings.Repeat("x", 5000)} {
		checkUnread(t, unit([]string{"a", name, "b"}, nil), api.ErrLine)
	}
	// How many there are is written as short as may be, and the names are all there.
	right := unit([]string{"a"}, nil)
	for _, count := range [][]byte{{129, 0}, {129, 128, 0}, {129, 128, 128, 128, 128, 128, 128, 128, 128, 0}, {129}, {0}, {2}, {255, 255, 255, 255, 255, 255, 255, 255, 255, 1}} {
		b := join(right[:38], count, right[39:])
		copy(b, number(len(b)-4, 4))
		copy(b[8:], number(len(b)-12, 4))
		checkUnread(t, b, api.ErrLine)
	}
}

// TestP1503Lengths: as many as there are, neither more nor less, whatever else would fit.
func TestP1503Lengths(t *testing.T) {
	commands := join(begin(7), []byte{18, 18, 18}, end())
	b := abUnit(commands...)
	for _, place := range []int{0, 8} {
		length := int(b[place])
		for _, n := range []int{0, length - 1, length + 1, length + 256, length + 1<<24, 1<<32 - 1} {
			changed := bytes.Clone(b)
			copy(changed[place:], number(n, 4))
			checkUnread(t, changed, api.ErrLine)
		}
	}
}

func TestP1503Commands(t *testing.T) {
	for _, c := range []struct {
		commands []byte
		want     lines.Row
		size     int
	}{
		{[]byte{1}, row(0, 1, 1, 0), 0},
		{[]byte{13 + 5}, row(0, 1, 1, 0), 0},
		{[]byte{17}, row(0, 1, 0, 0), 0},
		{[]byte{26}, row(0, 1, 9, 0), 0},
		{[]byte{27 + 4}, row(1, 1, 0, 0), 1},
		{[]byte{40}, row(1, 1, 9, 0), 1},
		{[]byte{3, 5, 255}, row(17, 1, 5, 0), 17},
		{[]byte{3, 4, 241}, row(16, 1, 4, 0), 16},
		{[]byte{2, 9, 1}, row(9, 1, 1, 0), 9},
		{[]byte{2, 128, 1, 2, 3, 1, 2, 7}, row(131, 1, 1, 0), 138},
		{[]byte{3, 9, 1}, row(0, 1, 10, 0), 0},
		{[]byte{3, 127, 1}, row(0, 1, 0, 0), 0},
		{[]byte{3, 63, 3, 64, 1}, row(0, 1, 0, 0), 0},
		{[]byte{4, 2, 1}, row(0, 2, 1, 0), 0},
		{[]byte{4, 2, 4, 1, 1}, row(0, 1, 1, 0), 0},
		{[]byte{5, 3, 1}, row(0, 1, 1, 3), 0},
		{[]byte{5, 255, 255, 3, 1}, row(0, 1, 1, 65535), 0},
		{[]byte{8, 1}, row(17, 1, 1, 0), 17},
		{[]byte{8, 8, 1, 8}, row(34, 1, 1, 0), 51},
		{[]byte{2, 128, 128, 64, 1}, row(1<<20, 1, 1, 0), 1 << 20},
		{[]byte{3, 254, 255, 255, 255, 7, 1}, row(0, 1, mostLine, 0), 0},
		// What is not told does not count.
		{[]byte{1, 4, 99, 5, 128, 128, 4, 3, 255, 255, 255, 255, 127}, row(0, 1, 1, 0), 0},
	} {
		// With a beginning and without one: then it is at 0.
		checkRead(t, abUnit(join(c.commands, end())...), program("a b", seq(0, c.size, c.want)))
		checkRead(t, abUnit(join(begin(4097), c.commands, end())...), program("a b", seq(4097, c.size, c.want)))
	}
}

// TestP1503AllSpecial: every byte that tells a row by itself.
func TestP1503AllSpecial(t *testing.T) {
	for c := 13; c < 256; c++ {
		want := row((c-13)/14, 1, 100+(c-13)%14-5, 0)
		checkRead(t, abUnit(join([]byte{3, 227, 0, byte(c)}, end())...), program("a b", seq(0, want.At, want)))
	}
}

// TestP1503State: it begins anew behind each end, and goes on behind each row.
func TestP1503State(t *testing.T) {
	b := abUnit(join(begin(4096), []byte{4, 2, 5, 9, 3, 20, 33, 1, 33}, end(), []byte{1}, end(), []byte{8, 18}, end())...)
	want := program("a b",
		seq(4096, 2, row(1, 2, 22, 9), row(1, 2, 22, 9), row(2, 2, 23, 9)),
		seq(0, 0, row(0, 1, 1, 0)),
		seq(0, 17, row(17, 1, 1, 0)))
	checkRead(t, b, want)
}

// TestP1503Start: it may be told where no row was told and At is 0, also twice; the last one holds.
func TestP1503Start(t *testing.T) {
	told := func(start int, ahead []byte, want lines.Row) {
		t.Helper()
		checkRead(t, abUnit(join(ahead, begin(start), []byte{1}, end())...), program("a b", seq(start, want.At, want)))
	}
	for _, start := range []int{0, 1, 255, 256, 1 << 32, mostStart - 1, mostStart} {
		told(start, nil, row(0, 1, 1, 0))
		told(start, begin(77), row(0, 1, 1, 0))
		told(start, begin(-1), row(0, 1, 1, 0))
		told(start, []byte{2, 0, 2, 128, 0}, row(0, 1, 1, 0))
		told(start, []byte{3, 7, 4, 2, 5, 6}, row(0, 2, 8, 6))
	}
	for _, start := range []int{mostStart + 1, 1<<63 - 1, -1 << 63, -1, -mostStart} {
		checkUnread(t, abUnit(join(begin(start), []byte{1}, end())...), api.ErrLine)
		checkUnread(t, abUnit(join(begin(7), begin(start), []byte{1}, end())...), api.ErrLine)
	}
	for _, ahead := range [][]byte{{1}, {18}, {8}, {2, 1}, {26}, {32}} {
		checkUnread(t, abUnit(join(ahead, begin(5), []byte{1}, end())...), api.ErrLine)
		checkUnread(t, abUnit(join(begin(5), ahead, begin(5), []byte{1}, end())...), api.ErrLine)
	}
	// Behind an end nothing was told.
	checkRead(t, abUnit(join([]byte{8, 1}, end(), begin(5), []byte{1}, end())...), program("a b", seq(0, 17, row(17, 1, 1, 0)), seq(5, 0, row(0, 1, 1, 0))))
}

func TestP1503NoCommand(t *testing.T) {
	for _, c := range [][]byte{
		{6}, {7}, {9}, {10}, {11}, {12}, {6, 1}, {9, 0, 0}, {12, 1},
		{0}, {0, 0}, {0, 1}, {0, 1, 0}, {0, 1, 2}, {0, 1, 3}, {0, 2, 1}, {0, 2, 1, 0}, {0, 129, 0, 1}, {0, 128, 1, 1},
		{0, 9}, {0, 9, 1}, {0, 9, 2}, begin(5)[:10], {0, 8, 2, 0, 0, 0, 0, 0, 0, 0, 0}, {0, 10, 2, 0, 0, 0, 0, 0, 0, 0, 0, 0}, {0, 9, 3, 0, 0, 0, 0, 0, 0, 0, 0}, {0, 9, 128, 0, 0, 0, 0, 0, 0, 0, 0}, {0, 137, 0, 2, 0, 0, 0, 0, 0, 0, 0, 0}, {0, 5, 2, 1, 2, 3, 4}, {0, 2, 4, 1},
		{2}, {3}, {4}, {5}, {2, 128}, {3, 255}, {4, 129}, {5, 128, 128},
	} {
		checkUnread(t, abUnit(c...), api.ErrLine)
		checkUnread(t, abUnit(join([]byte{1}, end(), c)...), api.ErrLine)
	}
	for _, c := range []byte{6, 7, 9, 10, 11, 12} {
		checkUnread(t, abUnit(join([]byte{1, c, 1}, end())...), api.ErrLine)
		checkUnread(t, abUnit(join([]byte{c, 1}, end())...), api.ErrLine)
		checkUnread(t, abUnit(join([]byte{1, c}, end())...), api.ErrLine)
	}
}

// TestP1503BehindTheEnd: whatever it does, or whether it does nothing.
func TestP1503BehindTheEnd(t *testing.T) {
	for _, c := range [][]byte{{1}, {18}, {2, 0}, {3, 0}, {4, 1}, {5, 0}, {8}, begin(0), begin(4096), {18, 18}, {255}} {
		checkUnread(t, abUnit(c...), api.ErrLine)
		checkUnread(t, abUnit(join([]byte{1}, end(), c)...), api.ErrLine)
		checkUnread(t, abUnit(join([]byte{1}, end(), []byte{1}, end(), c)...), api.ErrLine)
	}
	checkRead(t, abUnit(), program("a b"))
}

// TestP1503NoProgram: commands that are right, and tell what may not be.
func TestP1503NoProgram(t *testing.T) {
	for _, c := range [][]byte{
		{},          // no row
		{2, 5},      //
		{4, 0, 1},   // no file
		{4, 3, 1},   //
		{4, 255, 1}, //
		{4, 255, 255, 255, 255, 255, 255, 255, 255, 255, 1, 1}, // 2^64 - 1
		{4, 129, 128, 128, 128, 128, 128, 128, 128, 128, 1, 1}, // 2^63 + 1
		{5, 128, 128, 4, 1}, // 65536
		{5, 255, 255, 255, 255, 255, 255, 255, 255, 255, 1, 1}, // 2^64 - 1
		{5, 128, 128, 128, 128, 16, 1},                         // 2^32
		{3, 255, 255, 255, 255, 7, 1},                          // 2^31
		{2, 129, 128, 64, 1},                                   // 2^20 + 1
		{1, 2, 129, 128, 64},                                   //
		{2, 128, 128, 64, 1, 8},                                //
	} {
		checkUnread(t, abUnit(join(c, end())...), api.ErrLine)
		checkUnread(t, abUnit(join([]byte{1}, end(), begin(9), c, end(), []byte{1}, end())...), api.ErrLine)
	}
	// Without files no row may be told.
	checkUnread(t, unit(nil, join([]byte{1}, end())), api.ErrLine)
	checkUnread(t, unit(nil, join([]byte{4, 0, 1}, end())), api.ErrLine)
}

func signed(text string) []byte {
	n, _ := new(big.Int).SetString(text, 0)
	return modelSleb(int(n.Int64()))
}

// TestP1503FarNumbers: a Line or At below 0 or above 2^62 is no program, also if no row has it.
func TestP1503FarNumbers(t *testing.T) {
	line := func(texts ...string) []byte {
		var b []byte
		for _, text := range texts {
			b = join(b, []byte{3}, signed(text))
		}
		return b
	}
	right := func(c []byte, want lines.Row) {
		t.Helper()
		checkRead(t, abUnit(join(c, []byte{1}, end())...), program("a b", seq(0, 0, want)))
		checkRead(t, abUnit(join([]byte{1}, c, []byte{1}, end())...), program("a b", seq(0, 0, row(0, 1, 1, 0), want)))
	}
	wrong := func(c []byte) {
		t.Helper()
		checkUnread(t, abUnit(join(c, []byte{1}, end())...), api.ErrLine)
		checkUnread(t, abUnit(join([]byte{1}, c, end())...), api.ErrLine)
	}
	// At first it is 1.
	right(line("-1", "5"), row(0, 1, 5, 0))
	right(line("0x3fffffffffffffff", "-0x3fffffffffffffff"), row(0, 1, 1, 0))
	right(line("0x3fffffffffffffff", "-0x4000000000000000"), row(0, 1, 0, 0))
	wrong(line("-2", "2"))
	wrong(line("0x4000000000000000", "-0x4000000000000000"))
	wrong(line("0x7fffffffffffffff", "-0x7fffffffffffffff"))
	wrong(line("0x3fffffffffffffff", "0x7fffffffffffffff", "-0x7fffffffffffffff", "-0x3fffffffffffffff"))
	wrong(line("-0x8000000000000000", "0x7fffffffffffffff", "1"))
	wrong([]byte{16})
	wrong([]byte{17, 17})
	wrong([]byte{16, 3, 9})
	// An At never falls: what wraps round is too far, too.
	for _, n := range []uint64{1<<20 + 1, 1 << 62, 1<<62 + 1, 1<<63 - 1, 1 << 63, 1<<64 - 1, 1<<64 - 5} {
		wrong(join([]byte{2}, modelUleb(n)))
		wrong(join([]byte{2, 5, 2}, modelUleb(n)))
	}
	wrong(join([]byte{2}, modelUleb(1<<62), []byte{2}, modelUleb(1<<63-1)))
	wrong(join([]byte{2}, modelUleb(1<<62), []byte{2}, modelUleb(1<<62), []byte{2}, modelUleb(1<<63)))
	// A File or Column that no row has may be any.
	for _, n := range []uint64{0, 3, 256, 1 << 62, 1<<63 - 1, 1 << 63, 1<<64 - 1} {
		right(join([]byte{4}, modelUleb(n), []byte{4, 2}), row(0, 2, 1, 0))
		right(join([]byte{5}, modelUleb(n), []byte{5, 2}), row(0, 1, 1, 2))
	}
}

// TestP1503LongNumbers: with more bytes than they take, up to ten.
func TestP1503LongNumbers(t *testing.T) {
	for n := 1; n <= 12; n++ {
		// A first byte, and groups of all the same bits behind it.
		long := func(first, group byte) []byte {
			b := join([]byte{first | 128}, bytes.Repeat([]byte{group | 128}, n-1))
			b[n-1] &= 127
			return b
		}
		for c, want := range map[byte]lines.Row{2: row(2, 1, 1, 0), 3: row(0, 1, 3, 0), 4: row(0, 2, 1, 0), 5: row(0, 1, 1, 2)} {
			b := abUnit(join([]byte{c}, long(2, 0), []byte{1}, end())...)
			if n <= 10 {
				checkRead(t, b, program("a b", seq(0, want.At, want)))
			} else {
				checkUnread(t, b, api.ErrLine)
			}
		}
		b := abUnit(join([]byte{3, 9, 3}, long(127, 127), []byte{1}, end())...)
		if n <= 10 {
			checkRead(t, b, program("a b", seq(0, 0, row(0, 1, 9, 0))))
		} else {
			checkUnread(t, b, api.ErrLine)
		}
	}
	for _, last := range []byte{2, 3, 64, 126} {
		wide := join(bytes.Repeat([]byte{128}, 9), []byte{last})
		for _, c := range []byte{2, 3, 4, 5} {
			checkUnread(t, abUnit(join([]byte{c}, wide, []byte{4, 1, 5, 0, 1}, end())...), api.ErrLine)
		}
	}
}

func TestP1503Limits(t *testing.T) {
	rows := func(n int) []byte { return join(bytes.Repeat([]byte{18}, n), end()) }
	want := seq(0, 0, slices.Repeat([]lines.Row{row(0, 1, 1, 0)}, mostRows)...)
	checkRead(t, abUnit(rows(mostRows)...), program("a b", want))
	checkUnread(t, abUnit(rows(mostRows+1)...), api.ErrLine)
	checkUnread(t, abUnit(join(rows(mostRows), rows(mostRows+1))...), api.ErrLine)
	checkUnread(t, abUnit(join(bytes.Repeat([]byte{1}, mostRows+1), end())...), api.ErrLine)
	checkRead(t, abUnit(bytes.Repeat(rows(1), mostSeqs)...), program("a b", slices.Repeat([]lines.Seq{seq(0, 0, row(0, 1, 1, 0))}, mostSeqs)...))
	checkUnread(t, abUnit(bytes.Repeat(rows(1), mostSeqs+1)...), api.ErrLine)
	// As much as may be; and more behind it, of all sorts.
	full := bytes.Repeat(rows(mostRows), mostSeqs)
	checkRead(t, abUnit(full...), program("a b", slices.Repeat([]lines.Seq{want}, mostSeqs)...))
	for _, behind := range [][]byte{rows(0), rows(1), rows(mostRows), rows(mostRows + 1), rows(500000), {18}, {0}, begin(7), full} {
		checkUnread(t, abUnit(join(full, behind)...), api.ErrLine)
	}
	// The number of bytes is asked first, whatever they are.
	checkUnread(t, make([]byte, 1<<20), api.ErrLine)
	checkUnread(t, make([]byte, 1<<20+1), api.ErrSize)
	long := longProgram(t, 1<<20)
	b, _ := written(t, long)
	if p, e := lines.Read(b); e != api.OK || !same(p, long) {
		t.Error(e)
	}
	long.Files[2] += "c"
	var commands []byte
	commands = append(commands, b[len(unit(long.Files, nil))-1:]...)
	b = unit(long.Files, commands)
	if len(b) != 1<<20+1 {
		t.Fatal(len(b))
	}
	checkUnread(t, b, api.ErrSize)
}

// TestP1503Model: commands of all sorts.
func TestP1503Model(t *testing.T) {
	random := seeded(3)
	right, wrong, rows := 0, 0, 0
	for range 200000 {
		b := unit(names(pick(random, []int{1, 2, 3, 5, 130})), join(anyCommands(random), pick(random, [][]byte{nil, anyCommands(random)})))
		want, e := modelRead(b)
		if e != api.OK {
			wrong++
			checkUnread(t, b, e)
			continue
		}
		right++
		for _, s := range want.Seqs {
			rows += len(s.Rows)
		}
		checkRead(t, b, want)
	}
	if right < 10000 || wrong < 10000 || rows < 20000 {
		t.Error(right, wrong, rows)
	}
}

// spoiled is b with some bytes made others, taken out or put in.
func spoiled(b []byte, n func(int) int) []byte {
	b = bytes.Clone(b)
	for range 1 + n(3) {
		k := n(len(b))
		switch n(4) {
		case 0:
			b = slices.Delete(b, k, k+1)
		case 1:
			b = slices.Insert(b, k, byte(n(256)))
		case 2:
			b[k] = byte(n(256))
		default:
			b[k] += byte(n(3)) - 1
		}
	}
	if n(2) == 0 && len(b) > 4 {
		copy(b, number(len(b)-4, 4))
	}
	return b
}

// TestP1503Spoiled: units with faults.
func TestP1503Spoiled(t *testing.T) {
	random := seeded(4)
	right, wrong := 0, 0
	for range 100000 {
		b, _, _ := modelWrite(anyProgram(random))
		if len(b) > 1000 {
			continue
		}
		b = spoiled(b, random.IntN)
		want, e := modelRead(b)
		if e != api.OK {
			wrong++
			checkUnread(t, b, e)
			continue
		}
		right++
		checkRead(t, b, want)
	}
	if right < 3000 || wrong < 10000 {
		t.Error(right, wrong)
	}
}
