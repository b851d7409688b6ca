package leb_test

import (
	"bytes"
	"math"
	"testing"

	"gangway/leb"
)

// TestP101NothingPanics: all calls at all arguments, the wild ones too.
func TestP101NothingPanics(t *testing.T) {
	for _, b := range [][]byte{nil, {}, {0}, {128}, repeat(128, 10), repeat(255, 12), repeat(0, 16)} {
		for _, at := range wild() {
			leb.ReadUleb(b, at)
			leb.ReadSleb(b, at)
			leb.Text(b, at)
			for _, size := range wild() {
				leb.Get(b, at, size, true)
				leb.Get(b, at, size, false)
			}
		}
	}
	for _, n := range edges() {
		leb.Uleb(n)
		leb.Sleb(n)
		for _, m := range wild() {
			leb.Put(n, m)
			leb.Align(n, m)
			leb.Add(n, m)
			leb.Fits(n, m, true)
			leb.Fits(n, m, false)
		}
	}
}

// TestP101ArgumentsStay: neither the bytes that are handed in nor the room behind them are changed.
func TestP101ArgumentsStay(t *testing.T) {
	whole := []byte{200, 129, 3, 0, 255, 255, 1, 77, 78, 79}
	before := bytes.Clone(whole)
	b := whole[:7]
	for at := -1; at < 9; at++ {
		leb.ReadUleb(b, at)
		leb.ReadSleb(b, at)
		leb.Text(b, at)
		for _, size := range []int{1, 2, 4, 8} {
			leb.Get(b, at, size, true)
		}
	}
	if !bytes.Equal(whole, before) {
		t.Error(whole)
	}
}

// TestP101AnswersAreNew: what was answered once is not changed by what is done with another answer or an argument.
func TestP101AnswersAreNew(t *testing.T) {
	put := func(n int) []byte { b, _ := leb.Put(n, 8); return b }
	for _, call := range []func(int) []byte{put, leb.Uleb, leb.Sleb} {
		for _, n := range []int{0, 1, 300, -5, math.MinInt, math.MaxInt} {
			first, second := call(n), call(n)
			want := bytes.Clone(second)
			room := first[:cap(first)]
			for i := range room {
				room[i] ^= 255
			}
			if third := call(n); !bytes.Equal(second, want) || !bytes.Equal(third, want) {
				t.Errorf("%d: %v, %v; want %v", n, second, third, want)
			}
		}
	}
	b := []byte("ab\x00")
	s, _, _ := leb.Text(b, 0)
	b[0] = 'x'
	if s != "ab" {
		t.Errorf("Text: %q", s)
	}
}
