package tls_test

import (
	"bytes"
	"fmt"
	"slices"
	"strings"
	"testing"

	"gangway/api"
	"gangway/decode"
	"gangway/encode"
	"gangway/forms"
	"gangway/leb"
	"gangway/machine"
	"gangway/memory"
	"gangway/tls"
)

// written is what Code writes of each model and register that it takes.
type written struct {
	model, reg, at, kind int
	b                    []byte
	holes                []api.Hole
}

func allWritten(t *testing.T) []written {
	t.Helper()
	var l []written
	for _, model := range models() {
		for reg := range 16 {
			b, holes, e := tls.Code(model, reg, "v")
			if e == api.OK {
				l = append(l, written{model, reg, holes[0].At, holes[0].Type, b, holes})
			}
		}
	}
	if len(l) != 34 {
		t.Fatal(len(l))
	}
	return l
}

// TestP2106OfOneLength: bytes around an access are as they were, and as many.
func TestP2106OfOneLength(t *testing.T) {
	random := seeded(6)
	for _, w := range allWritten(t) {
		for range 200 {
			ahead, behind := numbered(random.IntN(30)), numbered(random.IntN(30))
			b := slices.Concat(ahead, w.b, behind)
			got, e := tls.Relax(b, len(ahead)+w.at, w.kind, random.IntN(1<<20)-1<<19)
			if e != api.OK || len(got) != len(b) {
				t.Fatal(w, len(b), len(got), e)
			}
			if !bytes.Equal(got[:len(ahead)], ahead) || !bytes.Equal(got[len(ahead)+len(w.b):], behind) {
				t.Errorf("%v: %s became %s", w, short(b), short(got))
			}
			if w.model == tls.Exec && !bytes.Equal(got[len(ahead):len(ahead)+3], w.b[:3]) {
				t.Errorf("%v: %s became %s", w, short(b), short(got))
			}
		}
	}
}

func texts(t *testing.T, b []byte) []string {
	t.Helper()
	list, _, e := decode.All(b)
	if e != api.OK {
		t.Fatalf("%s: %d", short(b), e)
	}
	var l []string
	for _, i := range list {
		s, e := forms.Text(i)
		if e != api.OK {
			t.Fatal(i, e)
		}
		l = append(l, s)
	}
	return l
}

// TestP2107WhatItBecomes: whole instructions with the chapter's texts.
func TestP2107WhatItBecomes(t *testing.T) {
	for _, w := range allWritten(t) {
		for _, n := range offsets() {
			if !leb.Fits(n, 32, true) {
				continue
			}
			b, e := tls.Relax(w.b, w.at, w.kind, n)
			if e != api.OK {
				t.Fatal(w, n, e)
			}
			offset := fmt.Sprint(n)
			if n == 0 {
				offset = ""
			}
			want := []string{fmt.Sprintf("movq $%d, %%%s", n, forms.Register(w.reg, 8))}
			switch w.model {
			case tls.Global:
				want = []string{"movq %fs:0, %rax", "leaq " + offset + "(%rax), %rax"}
			case tls.Local:
				want = []string{"movq %fs:0, %rax", "nop", "nop", "nop"}
			}
			if got := texts(t, b); !slices.Equal(got, want) {
				t.Errorf("%v, %d: %s; want %s", w, n, strings.Join(got, "; "), strings.Join(want, "; "))
			}
		}
	}
}

// run has the machine go through so many bytes at 4096, with a thread's block of Block's at 8192, and answers its registers.
func run(t *testing.T, b []byte, fs int) [16]uint64 {
	t.Helper()
	block, at, e := tls.Block([]byte("thread's data"), fs, 1)
	if e != api.OK || at != fs {
		t.Fatal(at, e)
	}
	m := memory.New()
	m.Map(4096, 1, memory.R|memory.X)
	m.Map(8192, 1, memory.R)
	m.Put(4096, b)
	low, _ := leb.Put(8192+fs, 8)
	copy(block[fs:], low)
	m.Put(8192, block)
	p, e := machine.New(m, machine.State{Rip: 4096, Fs: uint64(8192 + fs)})
	if e != api.OK {
		t.Fatal(e)
	}
	for p.State().Rip < uint64(4096+len(b)) {
		if e := p.Step(); e != api.OK {
			t.Fatal(e, p.State().Rip)
		}
	}
	return p.State().R
}

// TestP2107OnTheMachine: the register that each model names has the symbol's address, the block's end, or the offset.
func TestP2107OnTheMachine(t *testing.T) {
	const fs = 64
	for _, w := range allWritten(t) {
		for _, n := range []int{-64, -9, -8, -1, 0, 7} {
			b, _ := tls.Relax(w.b, w.at, w.kind, n)
			want := [16]uint64{}
			switch w.model {
			case tls.Global:
				want[0] = uint64(8192 + fs + n)
			case tls.Local:
				want[0] = 8192 + fs
			default:
				want[w.reg] = uint64(n)
			}
			if got := run(t, b, fs); got != want {
				t.Errorf("%v, %d: %v; want %v", w, n, got, want)
			}
		}
	}
}

// TestP2108Once: whichever numbers are in the holes, the same comes out.
func TestP2108Once(t *testing.T) {
	random := seeded(8)
	for _, w := range allWritten(t) {
		for _, n := range []int{-1 << 31, -8, 0, 1<<31 - 1} {
			want, e := tls.Relax(w.b, w.at, w.kind, n)
			if e != api.OK {
				t.Fatal(w, e)
			}
			for range 50 {
				b := w.b
				for _, h := range w.holes {
					b, e = encode.Fill(b, h, pick(random, 0, -1, 0x48484848, 0x66666666, random.IntN(1<<32)-1<<31))
					if e != api.OK {
						t.Fatal(h, e)
					}
				}
				checkRelax(t, b, w.at, w.kind, n, want, api.OK)
			}
		}
	}
}

// TestP2108OfExec: its hole filled is what becomes of it, and of Initial of the same register.
func TestP2108OfExec(t *testing.T) {
	for reg := range 16 {
		exec, holes, _ := tls.Code(tls.Exec, reg, "v")
		initial, _, _ := tls.Code(tls.Initial, reg, "v")
		for _, n := range []int{-1 << 31, -16, 0, 5, 1<<31 - 1} {
			want, e := encode.Fill(exec, holes[0], n)
			checkRelax(t, exec, 3, api.RTpoff32, n, want, e)
			checkRelax(t, initial, 3, api.RGotTpoff, n, want, e)
			// Once more, with another offset: that alone is to be seen.
			again, _ := tls.Relax(exec, 3, api.RTpoff32, n)
			other, _ := encode.Fill(exec, holes[0], 77)
			checkRelax(t, again, 3, api.RTpoff32, 77, other, api.OK)
		}
	}
}
