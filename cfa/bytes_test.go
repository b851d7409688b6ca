package cfa_test

import (
	"bytes"
	"slices"
	"testing"

	"gangway/api"
	"gangway/cfa"
)

func TestP1306Examples(t *testing.T) {
	checkWrite(t, ops(offset(6, -16)), []byte{134, 2}, api.OK)
	checkWrite(t, ops(advance(70)), []byte{2, 70}, api.OK)
	checkWrite(t, ops(defCfa(7, 8)), []byte{12, 7, 8}, api.OK)
	checkWrite(t, cfa.Usual(), []byte{12, 7, 8, 144, 1}, api.OK)
	checkWrite(t, nil, nil, api.OK)
	checkWrite(t, ops(), nil, api.OK)
}

// written: ops and their bytes, at the edges of each form.
func written() []struct {
	op cfa.Op
	b  []byte
} {
	return []struct {
		op cfa.Op
		b  []byte
	}{
		{nop(), []byte{0}},
		{advance(0), []byte{64}},
		{advance(1), []byte{65}},
		{advance(63), []byte{127}},
		{advance(64), []byte{2, 64}},
		{advance(255), []byte{2, 255}},
		{advance(256), []byte{3, 0, 1}},
		{advance(65535), []byte{3, 255, 255}},
		{advance(65536), []byte{4, 0, 0, 1, 0}},
		{advance(most), []byte{4, 255, 255, 255, 127}},
		{defCfa(0, 0), []byte{12, 0, 0}},
		{defCfa(16, 127), []byte{12, 16, 127}},
		{defCfa(16, 128), []byte{12, 16, 128, 1}},
		{defCfa(15, most), []byte{12, 15, 255, 255, 255, 255, 7}},
		{defRegister(0), []byte{13, 0}},
		{defRegister(16), []byte{13, 16}},
		{defOffset(0), []byte{14, 0}},
		{defOffset(200), []byte{14, 200, 1}},
		{defOffset(most), []byte{14, 255, 255, 255, 255, 7}},
		{offset(0, 0), []byte{128, 0}},
		{offset(16, 0), []byte{144, 0}},
		{offset(0, -8), []byte{128, 1}},
		{offset(16, -8), []byte{144, 1}},
		{offset(3, -1016), []byte{131, 127}},
		{offset(3, -1024), []byte{131, 128, 1}},
		{offset(3, least), []byte{131, 128, 128, 128, 128, 1}},
		{offset(0, 8), []byte{17, 0, 127}},
		{offset(16, 8), []byte{17, 16, 127}},
		{offset(3, 16), []byte{17, 3, 126}},
		{offset(3, 512), []byte{17, 3, 64}},
		{offset(3, 520), []byte{17, 3, 191, 127}},
		{offset(3, most-7), []byte{17, 3, 129, 128, 128, 128, 127}},
		{restore(0), []byte{192}},
		{restore(16), []byte{208}},
		{undefined(0), []byte{7, 0}},
		{undefined(16), []byte{7, 16}},
		{sameValue(0), []byte{8, 0}},
		{sameValue(16), []byte{8, 16}},
		{remember(), []byte{10}},
		{recall(), []byte{11}},
	}
}

// TestP1306EachForm: the bytes of each op, alone and one behind the other; and back.
func TestP1306EachForm(t *testing.T) {
	var all []cfa.Op
	var bytes []byte
	for _, c := range written() {
		checkWrite(t, ops(c.op), c.b, api.OK)
		checkRead(t, c.b, ops(c.op), api.OK)
		all, bytes = append(all, c.op), append(bytes, c.b...)
	}
	checkWrite(t, all, bytes, api.OK)
	checkRead(t, bytes, all, api.OK)
}

// TestP1306WhereverTheyStand: Write asks not for a table.
func TestP1306WhereverTheyStand(t *testing.T) {
	checkWrite(t, ops(recall(), restore(3), advance(most), advance(most), defOffset(8)), []byte{11, 195, 4, 255, 255, 255, 127, 4, 255, 255, 255, 127, 14, 8}, api.OK)
	checkWrite(t, slices.Repeat(ops(remember()), 100), bytes.Repeat([]byte{10}, 100), api.OK)
}

// TestP1306Order: ErrSize ahead of ErrCfa; one that may not be, wherever it stands.
func TestP1306Order(t *testing.T) {
	many := slices.Repeat(ops(undefined(3)), api.MaxRows)
	checkWrite(t, many, bytes.Repeat([]byte{7, 3}, api.MaxRows), api.OK)
	checkWrite(t, append(slices.Clone(many), undefined(3)), nil, api.ErrSize)
	checkWrite(t, append(slices.Clone(many), cfa.Op{Kind: 11}), nil, api.ErrSize)
	checkWrite(t, append(ops(cfa.Op{Kind: -1}), many...), nil, api.ErrSize)
	checkWrite(t, append(slices.Clone(many[1:]), cfa.Op{Kind: 11}), nil, api.ErrCfa)
	checkWrite(t, append(ops(cfa.Op{Kind: 11}), many[1:]...), nil, api.ErrCfa)
}

// TestP1307OtherForms: what Read takes beside what Write writes.
func TestP1307OtherForms(t *testing.T) {
	for _, c := range []struct {
		b    []byte
		want cfa.Op
	}{
		{[]byte{5, 6, 2}, offset(6, -16)},
		{[]byte{5, 0, 0}, offset(0, 0)},
		{[]byte{5, 16, 128, 128, 128, 128, 1}, offset(16, least)},
		{[]byte{6, 3}, restore(3)},
		{[]byte{6, 16}, restore(16)},
		{[]byte{17, 3, 2}, offset(3, -16)},
		{[]byte{17, 3, 0}, offset(3, 0)},
		{[]byte{17, 3, 128, 128, 128, 128, 1}, offset(3, least)},
		{[]byte{17, 3, 129, 128, 128, 128, 127}, offset(3, most-7)},
		{[]byte{17, 3, 129, 128, 128, 128, 255, 255, 255, 255, 255, 127}, offset(3, most-7)},
		{[]byte{17, 131, 0, 254, 127}, offset(3, 16)},
		{[]byte{2, 0}, advance(0)},
		{[]byte{2, 63}, advance(63)},
		{[]byte{3, 63, 0}, advance(63)},
		{[]byte{3, 255, 0}, advance(255)},
		{[]byte{4, 0, 0, 0, 0}, advance(0)},
		{[]byte{4, 255, 255, 0, 0}, advance(65535)},
		{[]byte{12, 135, 0, 136, 0}, defCfa(7, 8)},
		{[]byte{12, 135, 128, 128, 128, 128, 128, 128, 128, 128, 0, 136, 128, 128, 128, 128, 128, 128, 128, 128, 0}, defCfa(7, 8)},
		{[]byte{13, 144, 0}, defRegister(16)},
		{[]byte{14, 255, 255, 255, 255, 135, 0}, defOffset(most)},
		{[]byte{131, 130, 0}, offset(3, -16)},
		{[]byte{131, 130, 128, 128, 128, 128, 128, 128, 128, 128, 0}, offset(3, -16)},
		{[]byte{5, 134, 0, 130, 128, 0}, offset(6, -16)},
		{[]byte{6, 131, 128, 0}, restore(3)},
		{[]byte{7, 131, 0}, undefined(3)},
		{[]byte{8, 144, 128, 128, 0}, sameValue(16)},
	} {
		checkRead(t, c.b, ops(c.want), api.OK)
		checkRead(t, append(slices.Clone(c.b), 10), ops(c.want, remember()), api.OK)
		checkRead(t, append([]byte{65}, c.b...), ops(advance(1), c.want), api.OK)
	}
	checkRead(t, nil, nil, api.OK)
	checkRead(t, []byte{}, nil, api.OK)
	checkRead(t, []byte{0, 0, 0}, ops(nop(), nop(), nop()), api.OK)
}

// TestP1307NoOp: bytes that begin none.
func TestP1307NoOp(t *testing.T) {
	begins := []int{0, 2, 3, 4, 5, 6, 7, 8, 10, 11, 12, 13, 14, 17}
	rest := []byte{3, 2, 0, 0, 0, 0}
	for first := range 256 {
		_, e := cfa.Read(append([]byte{byte(first)}, rest...))
		taken := slices.Contains(begins, first) || first >= 64 && first <= 144 || first >= 192 && first <= 208
		if (e == api.OK) != taken || !taken && e != api.ErrCfa {
			t.Error(first, e)
		}
		if !taken {
			checkRead(t, []byte{byte(first)}, nil, api.ErrCfa)
			checkRead(t, []byte{0, 65, byte(first), 0}, nil, api.ErrCfa)
		}
	}
}

// TestP1307NotWhole: each op with less than all its bytes, but of none.
func TestP1307NotWhole(t *testing.T) {
	long := []byte{128, 128, 128, 128, 128, 128, 128, 128, 128, 0}
	forms := [][]byte{{5, 6, 2}, {6, 3}, {17, 3, 2}, {5, 134, 0, 130, 0}, append([]byte{12, 7}, long...), append([]byte{131}, long...), append(append([]byte{17}, long...), long...)}
	for _, c := range written() {
		forms = append(forms, c.b)
	}
	for _, b := range forms {
		for n := 1; n < len(b); n++ {
			checkRead(t, b[:n], nil, api.ErrCfa)
			checkRead(t, append([]byte{10, 0}, b[:n]...), nil, api.ErrCfa)
		}
	}
}

// TestP1307MayNotBe: whole ops with numbers that none has.
func TestP1307MayNotBe(t *testing.T) {
	huge := []byte{255, 255, 255, 255, 255, 255, 255, 255, 255, 1} // 2^64 - 1
	sixtyOne := []byte{128, 128, 128, 128, 128, 128, 128, 128, 32} // 2^61: eight of them wrap round to 0
	tooLong := []byte{129, 128, 128, 128, 128, 128, 128, 128, 128, 128, 0}
	doesNotFit := []byte{129, 128, 128, 128, 128, 128, 128, 128, 128, 2}
	for _, number := range [][]byte{huge, sixtyOne, tooLong, doesNotFit} {
		for _, ahead := range [][]byte{{12}, {12, 7}, {13}, {14}, {5}, {5, 3}, {6}, {7}, {8}, {17}, {131}} {
			b := append(slices.Clone(ahead), number...)
			checkRead(t, append(b, 1, 1), nil, api.ErrCfa)
		}
	}
	for _, number := range [][]byte{
		{129, 128, 128, 128, 1},                          // 2^28 + 1
		{128, 128, 128, 128, 2},                          // 2^29: N below -2^31
		{128, 128, 128, 128, 16},                         // 2^32
		{254, 255, 255, 255, 255, 255, 255, 255, 255, 1}, // as one with a sign -2
		{128, 128, 128, 128, 128, 128, 128, 128, 128, 1}, // 2^63
		{129, 128, 128, 128, 128, 128, 128, 128, 32},     // 2^61 + 1
	} {
		checkRead(t, append([]byte{131}, number...), nil, api.ErrCfa)
		checkRead(t, append([]byte{5, 3}, number...), nil, api.ErrCfa)
	}
	for _, number := range [][]byte{
		{129, 128, 128, 128, 1},                                 // 2^28 + 1
		{128, 128, 128, 128, 127},                               // -2^28: N of 2^31
		{255, 255, 255, 255, 126},                               // -2^28 - 1
		{128, 128, 128, 128, 128, 128, 128, 128, 32},            // 2^61
		{128, 128, 128, 128, 128, 128, 128, 128, 96},            // -2^61
		{128, 128, 128, 128, 128, 128, 128, 128, 128, 127},      // -2^63
		{129, 128, 128, 128, 128, 128, 128, 128, 128, 1},        // no number
		{255, 255, 255, 255, 255, 255, 255, 255, 255, 255, 127}, // too long
	} {
		checkRead(t, append([]byte{17, 3}, number...), nil, api.ErrCfa)
	}
	for _, b := range [][]byte{
		{12, 17, 8}, {13, 17}, {6, 17}, {7, 17}, {8, 17}, {5, 17, 1}, {17, 17, 1}, {145, 1}, {191, 1}, {209}, {255},
		{14, 128, 128, 128, 128, 8}, {12, 7, 128, 128, 128, 128, 8}, {4, 0, 0, 0, 128}, {4, 255, 255, 255, 255}, {13, 128, 1}, {7, 144, 1},
	} {
		checkRead(t, b, nil, api.ErrCfa)
		checkRead(t, append([]byte{65}, b...), nil, api.ErrCfa)
		checkRead(t, append(slices.Clone(b), 0), nil, api.ErrCfa)
	}
}

// TestP1307Order: ErrSize of bytes ahead of all; then op by op.
func TestP1307Order(t *testing.T) {
	full := bytes.Repeat([]byte{10}, api.MaxRows)
	with := func(behind ...byte) []byte { return append(slices.Clone(full), behind...) }
	checkRead(t, full, slices.Repeat(ops(remember()), api.MaxRows), api.OK)
	checkRead(t, with(0), nil, api.ErrSize)
	checkRead(t, with(1), nil, api.ErrCfa)
	checkRead(t, with(145, 1), nil, api.ErrCfa)
	checkRead(t, with(12, 7), nil, api.ErrCfa)
	checkRead(t, with(12, 7, 8), nil, api.ErrSize)
	checkRead(t, with(0, 1), nil, api.ErrSize)
	checkRead(t, with(0, 12, 7), nil, api.ErrSize)
	checkRead(t, append(slices.Clone(full[1:]), 1, 0, 0), nil, api.ErrCfa)
	checkRead(t, append([]byte{1}, full...), nil, api.ErrCfa)

	most := make([]byte, api.MaxBytes)
	checkRead(t, most, nil, api.ErrSize)
	most[0] = 1
	checkRead(t, most, nil, api.ErrCfa)
	checkRead(t, append(most, 0), nil, api.ErrSize)
	checkRead(t, bytes.Repeat([]byte{1}, api.MaxBytes+1), nil, api.ErrSize)
}

// TestP1307ManyBytes: as many as MaxRows ops have at most.
func TestP1307ManyBytes(t *testing.T) {
	long := []byte{17, 131, 128, 128, 128, 128, 128, 128, 128, 128, 0, 129, 128, 128, 128, 255, 255, 255, 255, 255, 127}
	checkRead(t, bytes.Repeat(long, api.MaxRows), slices.Repeat(ops(offset(3, most-7)), api.MaxRows), api.OK)
	checkRead(t, bytes.Repeat(long, api.MaxRows+1), nil, api.ErrSize)
}
