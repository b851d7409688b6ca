package tls_test

import (
	"bytes"
	"math"
	"slices"
	"testing"

	"gangway/api"
	"gangway/tls"
)

func wildNumbers() []int {
	return append(offsets(), -7, 3, 4, 5, 7, 8, 16, 4096, 1<<20, 1<<20+1, 1<<29, 1<<30, 1<<61, -1<<61)
}

// TestP1NothingPanics: all numbers, wild ones too; with an error nothing else is answered.
func TestP1NothingPanics(t *testing.T) {
	var samples [][]byte
	for _, r := range rows()[:4] {
		samples = append(samples, filled(r.from, -1))
	}
	samples = append(samples, nil, []byte{0x48}, numbered(3), numbered(4))
	for _, n := range wildNumbers() {
		for _, m := range wildNumbers() {
			want, holes, e := modelCode(n, m, "x")
			checkCode(t, n, m, "x", want, holes, e)
			for _, b := range samples {
				checkModel(t, b, n, m, 0)
				for _, kind := range types() {
					checkModel(t, b, n, kind, m)
				}
			}
			if m >= -1<<20 && m <= 1<<12 || m > 1<<20 {
				block, fs, e := modelBlock(numbered(5), m, n)
				checkBlock(t, numbered(5), m, n, block, fs, e)
			}
		}
	}
}

// TestP1MuchEnds: bytes far beyond the limit; Find has none.
func TestP1MuchEnds(t *testing.T) {
	const many = 1 << 26
	b := make([]byte, many)
	copy(b[many-7:], []byte{0x4c, 0x8b, 0x2d})
	checkFind(t, b, many-4, api.RGotTpoff, tls.Initial, many-7, 7, api.OK)
	checkFind(t, b, many-5, api.RGotTpoff, 0, 0, 0, api.ErrTls)
	checkFind(t, b, many-4, api.RTpoff32, tls.Exec, many-4, 4, api.OK)
	checkRelax(t, b, many-4, api.RGotTpoff, 0, nil, api.ErrSize)
	checkBlock(t, b, many, 1, nil, 0, api.ErrArg)
	checkBlock(t, b, 1, 1, nil, 0, api.ErrArg)
	checkCode(t, tls.Exec, 0, string(b), nil, nil, api.ErrArg)
}

// TestP1NilAndEmpty: they mean the same.
func TestP1NilAndEmpty(t *testing.T) {
	for _, b := range [][]byte{nil, {}} {
		for _, at := range []int{-4, -1, 0, 1, 3, 4} {
			for _, kind := range types() {
				checkFind(t, b, at, kind, 0, 0, 0, api.ErrTls)
				checkRelax(t, b, at, kind, 0, nil, api.ErrTls)
			}
		}
		checkBlock(t, b, 3, 4, make([]byte, 12), 4, api.OK)
	}
}

func scratch(b []byte) {
	b = b[:cap(b)]
	for k := range b {
		b[k] = 0xee
	}
}

// TestP1AnswersAreNew: what is done with an answer, and the room behind it, is to be seen in no other one, nor in an argument.
func TestP1AnswersAreNew(t *testing.T) {
	for _, r := range rows() {
		room := append(filled(r.from, 0), numbered(40)...)
		before := slices.Clone(room)
		length := len(filled(r.from, 0))
		for _, b := range [][]byte{room, room[:length], room[:length+5]} {
			first, _ := tls.Relax(b, firstHole(r.from), r.kind, -8)
			again, _ := tls.Relax(b, firstHole(r.from), r.kind, -8)
			want := slices.Clone(again)
			scratch(first)
			if !bytes.Equal(room, before) || !bytes.Equal(again, want) {
				t.Error(r, room, again)
			}
			checkRelax(t, b, firstHole(r.from), r.kind, -8, want, api.OK)
			scratch(again)
			if !bytes.Equal(room, before) {
				t.Error(r, room)
			}
		}
		code, holes, _ := tls.Code(r.model, r.reg, "x")
		scratch(code)
		for k := range holes[:cap(holes)] {
			holes[:cap(holes)][k] = api.Hole{At: 99, Name: "scratched"}
		}
		want, l, e := modelCode(r.model, r.reg, "x")
		checkCode(t, r.model, r.reg, "x", want, l, e)
	}
	data := numbered(16)
	for _, size := range []int{5, 8, 16} {
		block, _, _ := tls.Block(data[:5], size, 8)
		scratch(block)
		want, fs, e := modelBlock(numbered(5), size, 8)
		checkBlock(t, data[:5], size, 8, want, fs, e)
		if !bytes.Equal(data, numbered(16)) {
			t.Error(data)
		}
	}
}

// TestP1ArgumentsStay: neither what is handed in nor the room behind it is changed, nor is that room read.
func TestP1ArgumentsStay(t *testing.T) {
	for _, r := range rows() {
		room := append(filled(r.from, 0), numbered(10)...)
		before := slices.Clone(room)
		for length := range len(room) {
			b := room[:length]
			want, e := modelRelax(slices.Clone(b), firstHole(r.from), r.kind, 0x44332211)
			checkRelax(t, b, firstHole(r.from), r.kind, 0x44332211, want, e)
			block, fs, e := modelBlock(slices.Clone(b), length+3, 16)
			checkBlock(t, b, length+3, 16, block, fs, e)
			if !bytes.Equal(room, before) {
				t.Fatal(r, length, room)
			}
		}
	}
}

// TestP1TheSameAgain: what is answered hangs on the arguments alone, many times and side by side.
func TestP1TheSameAgain(t *testing.T) {
	random := seeded(9)
	type call struct {
		b                []byte
		at, kind, offset int
		want             []byte
		e                api.Errno
	}
	var calls []call
	for range 500 {
		c := call{offset: pick(random, offsets()...)}
		c.b, c.at, c.kind = sequence(random)
		c.want, c.e = modelRelax(c.b, c.at, c.kind, c.offset)
		calls = append(calls, c)
	}
	done := make(chan bool)
	for range 8 {
		go func() {
			same := true
			for range 3 {
				for _, c := range calls {
					got, e := tls.Relax(c.b, c.at, c.kind, c.offset)
					b, holes, _ := tls.Code(tls.Global, 0, "x")
					same = same && e == c.e && bytes.Equal(got, c.want) && len(b) == 16 && holes[0].Name == "x"
				}
			}
			done <- same
		}()
	}
	for range 8 {
		if !<-done {
			t.Error("not the same again")
		}
	}
	if _, _, e := tls.Block(nil, math.MaxInt, 1); e != api.ErrArg {
		t.Error(e)
	}
}
