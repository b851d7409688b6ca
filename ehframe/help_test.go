package ehframe_test

import (
	"bytes"
	"encoding/hex"
	"math/rand/v2"
	"slices"
	"strings"
	"testing"

	"gangway/api"
	"gangway/cfa"
	"gangway/ehframe"
)

const (
	far   = 1 << 60 // the farthest address
	start = 1 << 59 // the highest one that a section may begin at
)

// shape: a number of one of the nine kinds, told anew.
type shape struct {
	enc, size int // 0 bytes: in groups of seven bits
	signed    bool
}

func shapes() []shape {
	return []shape{
		{ehframe.Abs, 8, true}, {ehframe.Uleb, 0, false}, {ehframe.U2, 2, false}, {ehframe.U4, 4, false}, {ehframe.U8, 8, false},
		{ehframe.Sleb, 0, true}, {ehframe.S2, 2, true}, {ehframe.S4, 4, true}, {ehframe.S8, 8, true},
	}
}

// encodings are all 27.
func encodings() []int {
	var l []int
	for _, from := range []int{0, ehframe.Pcrel, ehframe.Datarel} {
		for _, s := range shapes() {
			l = append(l, s.enc+from)
		}
	}
	return l
}

func seeded(n uint64) *rand.Rand { return rand.New(rand.NewPCG(14, n)) }

func pick[T any](random *rand.Rand, l []T) T { return l[random.IntN(len(l))] }

func nop() cfa.Op              { return cfa.Op{Kind: cfa.Nop} }
func advance(n int) cfa.Op     { return cfa.Op{Kind: cfa.Advance, N: n} }
func defCfa(r, n int) cfa.Op   { return cfa.Op{Kind: cfa.DefCfa, R: r, N: n} }
func defOffset(n int) cfa.Op   { return cfa.Op{Kind: cfa.DefOffset, N: n} }
func offset(r, n int) cfa.Op   { return cfa.Op{Kind: cfa.Offset, R: r, N: n} }
func sameValue(r int) cfa.Op   { return cfa.Op{Kind: cfa.SameValue, R: r} }
func recall() cfa.Op           { return cfa.Op{Kind: cfa.Recall} }
func nops(n int) []cfa.Op      { return make([]cfa.Op, n) }
func ops(l ...cfa.Op) []cfa.Op { return l }

// usual is a CIE as functions mostly have it, but for its encoding.
func usual(enc int) ehframe.Cie { return ehframe.Cie{Enc: enc, Initial: cfa.Usual()} }

func cies(l ...ehframe.Cie) []ehframe.Cie { return l }

func fdes(l ...ehframe.Fde) []ehframe.Fde { return l }

func fde(cie, begin, size int, l ...cfa.Op) ehframe.Fde {
	return ehframe.Fde{Cie: cie, Begin: begin, Size: size, Ops: l}
}

// usualWith is Usual and so many ops behind it.
func usualWith(behind ...cfa.Op) []cfa.Op { return append(cfa.Usual(), behind...) }

// digits are bytes, two digits of 16 each, with spaces and commas between.
func digits(texts ...string) []byte {
	text := strings.NewReplacer(" ", "", ",", "").Replace(strings.Join(texts, ""))
	b, err := hex.DecodeString(text)
	if err != nil {
		panic(err)
	}
	return b
}

// record puts its length ahead.
func record(texts ...string) []byte { return sized(digits(texts...)) }

func sized(body []byte) []byte {
	n := len(body)
	return join([]byte{byte(n), byte(n >> 8), byte(n >> 16), byte(n >> 24)}, body)
}

// padded is a record with Nops behind it, up to a length that is a multiple of 4.
func padded(body []byte) []byte { return sized(join(body, make([]byte, (4-len(body)%4)%4))) }

// usualCie are the bytes of a CIE of Pcrel + S4 and Usual, from the id on.
const usualCie = "00 00 00 00, 01, 7a 52 00, 01, 78, 10, 01, 1b, 0c 07 08, 90 01, 00 00"

func join(l ...[]byte) []byte { return bytes.Join(l, nil) }

func sameCie(x, y ehframe.Cie) bool { return x.Enc == y.Enc && slices.Equal(x.Initial, y.Initial) }

func sameFde(x, y ehframe.Fde) bool {
	return x.Cie == y.Cie && x.Begin == y.Begin && x.Size == y.Size && slices.Equal(x.Ops, y.Ops)
}

func sameTables(c, c2 []ehframe.Cie, f, f2 []ehframe.Fde) bool {
	return slices.EqualFunc(c, c2, sameCie) && slices.EqualFunc(f, f2, sameFde)
}

// shown is as much of a long list as can be read.
func shown[T any](l []T) []T { return l[:min(len(l), 40)] }

func checkPut(t *testing.T, enc, v, at, data int, want []byte, wantE api.Errno) {
	t.Helper()
	if b, e := ehframe.Put(enc, v, at, data); e != wantE || !bytes.Equal(b, want) {
		t.Errorf("Put(%d, %d, %d, %d): %x, %d; want %x, %d", enc, v, at, data, b, e, want, wantE)
	}
}

func checkGet(t *testing.T, b []byte, at, enc, addr, data, wantV, wantEnd int, wantE api.Errno) {
	t.Helper()
	if v, end, e := ehframe.Get(b, at, enc, addr, data); v != wantV || end != wantEnd || e != wantE {
		t.Errorf("Get(%x, %d, %d, %d, %d): %d, %d, %d; want %d, %d, %d", shown(b), at, enc, addr, data, v, end, e, wantV, wantEnd, wantE)
	}
}

func checkCheck(t *testing.T, c []ehframe.Cie, f []ehframe.Fde, wantE api.Errno) {
	t.Helper()
	if e := ehframe.Check(c, f); e != wantE {
		t.Errorf("Check of %d, %d, %v, %v: %d; want %d", len(c), len(f), shown(c), shown(f), e, wantE)
	}
}

func checkWrite(t *testing.T, c []ehframe.Cie, f []ehframe.Fde, addr int, end bool, want []byte, wantAt []int, wantE api.Errno) {
	t.Helper()
	if b, at, e := ehframe.Write(c, f, addr, end); e != wantE || !bytes.Equal(b, want) || !slices.Equal(at, wantAt) {
		t.Errorf("Write of %v, %v, %d, %v: %x, %v, %d; want %x, %v, %d", shown(c), shown(f), addr, end, shown(b), at, e, shown(want), wantAt, wantE)
	}
}

// checkUnwritten: nothing is written, for that error.
func checkUnwritten(t *testing.T, c []ehframe.Cie, f []ehframe.Fde, addr int, wantE api.Errno) {
	t.Helper()
	checkWrite(t, c, f, addr, false, nil, nil, wantE)
	checkWrite(t, c, f, addr, true, nil, nil, wantE)
}

func checkRead(t *testing.T, b []byte, addr int, wantC []ehframe.Cie, wantF []ehframe.Fde, wantE api.Errno) {
	t.Helper()
	if c, f, e := ehframe.Read(b, addr); e != wantE || !sameTables(c, wantC, f, wantF) {
		t.Errorf("Read of %d bytes %x, %d: %v, %v, %d; want %v, %v, %d", len(b), shown(b), addr, shown(c), shown(f), e, shown(wantC), shown(wantF), wantE)
	}
}

// checkNoTable: bytes that are no table.
func checkNoTable(t *testing.T, b []byte, addr int) {
	t.Helper()
	checkRead(t, b, addr, nil, nil, api.ErrFrame)
}
