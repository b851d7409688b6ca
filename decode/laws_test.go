package decode_test

import (
	"bytes"
	"math/rand"
	"testing"

	"gangway/api"
	"gangway/decode"
	"gangway/encode"
	"gangway/forms"
)

// seen: what One answers must hold of any bytes, at any place.
type seen struct{ whole, long, cut, none int }

// isOwn: an instruction without names, with its least number.
func isOwn(i api.Inst) bool {
	return forms.Check(i) == api.OK && i.To.Name == "" && i.From.Name == "" && isLeast(i)
}

// longBytes: those with a displacement of 4 bytes, as a name has it, and its number put in.
func longBytes(i api.Inst) []byte {
	n := i.To.N
	if i.To.Kind == api.Mem {
		i.To.Name, i.To.Mod = "x", api.Tpoff
	} else {
		n = i.From.N
		i.From.Name, i.From.Mod = "x", api.Tpoff
	}
	b, holes, e := encode.Bytes(i)
	if e != api.OK || len(holes) != 1 {
		return nil
	}
	b, _ = encode.Fill(b, holes[0], n)
	return b
}

// hasBase: a memory operand with a Base.
func hasBase(i api.Inst) bool {
	return i.To.Kind == api.Mem && i.To.Base >= 0 || i.From.Kind == api.Mem && i.From.Base >= 0
}

// check: bytes of an instruction are its own, or its own with a long displacement; with an error nothing else is answered, and where bytes are missing fewer than 15 are there.
func (s *seen) check(t *testing.T, b []byte) {
	t.Helper()
	i, n, e := decode.One(b, 0)
	switch e {
	case api.OK:
		if n < 1 || n > 15 || n > len(b) || !isOwn(i) {
			t.Fatalf("One(% x): %+v, %d", b, i, n)
		}
		own, _, _ := encode.Bytes(i)
		if bytes.Equal(own, b[:n]) {
			s.whole++
			return
		}
		if !hasBase(i) || !bytes.Equal(longBytes(i), b[:n]) {
			t.Fatalf("One(% x): %+v, %d; its bytes are % x", b, i, n, own)
		}
		s.long++
		return
	case api.ErrEnd:
		s.cut++
	case api.ErrForm:
		s.none++
	default:
		t.Fatalf("One(% x): %d", b, e)
	}
	if i != (api.Inst{}) || n != 0 || e == api.ErrEnd && len(b) >= 15 {
		t.Fatalf("One(% x): %+v, %d, %d", b, i, n, e)
	}
}

// TestP506ThereAndBack: of the bytes of instructions, with one of them made another one, and of bytes by chance that begin as instructions do.
func TestP506ThereAndBack(t *testing.T) {
	var s seen
	source := rand.New(rand.NewSource(5))
	for _, m := range append(fewMemory(), registers()...) {
		for _, i := range []api.Inst{inst(api.Mov, 8, reg(9), m), inst(api.Add, 4, m, imm(1000)), inst(api.Mov, 1, m, reg(6)), inst(api.Shl, 8, m, imm(63)), inst(api.Call, 8, m, api.Operand{})} {
			b, _, e := encode.Bytes(i)
			if e != api.OK {
				continue
			}
			for at := range b {
				for x := range 256 {
					c := append(bytes.Clone(b), 0x90, 0x90, 0x90, 0x90, 0x90)
					c[at] = byte(x)
					s.check(t, c)
				}
			}
		}
	}
	for range 400000 {
		b := make([]byte, source.Intn(20))
		source.Read(b)
		for k := range min(len(b), 2) {
			if source.Intn(3) == 0 {
				b[k] = 0x40 | b[k]&15
			}
		}
		s.check(t, b)
	}
	if s.whole < 10000 || s.long < 1000 || s.cut < 1000 || s.none < 10000 {
		t.Errorf("too few of a kind: %+v", s)
	}
}

// TestP506LongDisplacements: any number in 4 bytes is told, whichever Base and Index there are.
func TestP506LongDisplacements(t *testing.T) {
	for _, n := range displacements() {
		for _, m := range shapes(n) {
			for _, i := range []api.Inst{inst(api.Mov, 8, reg(9), m), inst(api.Mov, 4, m, imm(-2)), inst(api.Pop, 8, m, api.Operand{})} {
				b := longBytes(i)
				checkOne(t, append(b, 0x90), i, len(b), api.OK)
				checkOne(t, b[:len(b)-1], api.Inst{}, 0, api.ErrEnd)
			}
		}
	}
}

// TestP508AtMost15: the longest instructions, and each beginning of theirs; whatever stands behind 15 bytes none is missing.
func TestP508AtMost15(t *testing.T) {
	longest := 0
	var s seen
	eachInstruction(func(i api.Inst) {
		b := bytesOf(t, i)
		longest = max(longest, len(b))
		if len(b) < 9 {
			return
		}
		for k := range b {
			s.check(t, append(b[:k:k], bytes.Repeat([]byte{0}, 15-k)...))
			s.check(t, append(b[:k:k], bytes.Repeat([]byte{0x48}, 15-k)...))
			s.check(t, b[:k])
		}
	})
	if longest != 13 || s.cut == 0 {
		t.Errorf("the longest one has %d bytes; %+v", longest, s)
	}
	for _, x := range []byte{0, 0x0f, 0x40, 0x48, 0x4f, 0x64, 0x66, 0xff} {
		for n := range 40 {
			s.check(t, bytes.Repeat([]byte{x}, n))
		}
	}
}
