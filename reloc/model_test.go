package reloc_test

import (
	"math/big"
	"math/rand/v2"
	"testing"

	"gangway/api"
	"gangway/reloc"
)

// A slow model of the chapter, with numbers without limits.

// row is a line of the chapter's table; the letters of value are a place's numbers, those behind the - taken away.
type row struct {
	kind, size int
	value      string
	low, high  string
}

func table() []row {
	const b31, top31, top32 = "-2147483648", "2147483647", "4294967295"
	return []row{
		{1, 8, "SA", "", ""},
		{2, 4, "SA-P", b31, top31},
		{4, 4, "SA-P", b31, top31},
		{10, 4, "SA", "0", top32},
		{11, 4, "SA", b31, top31},
		{9, 4, "GA-P", b31, top31},
		{22, 4, "GA-P", b31, top31},
		{23, 4, "SA-T", b31, top31},
		{21, 4, "SA-T", b31, top31},
	}
}

func modelRow(t int) (row, bool) {
	for _, r := range table() {
		if r.kind == t {
			return r, true
		}
	}
	return row{}, false
}

func modelName(t int) string {
	names := map[int]string{
		1: "64", 2: "PC32", 4: "PLT32", 10: "32", 11: "32S", 9: "GOTPCREL", 22: "GOTTPOFF", 23: "TPOFF32", 21: "DTPOFF32",
		0: "NONE", 6: "GLOB_DAT", 8: "RELATIVE", 19: "TLSGD", 20: "TLSLD", 37: "IRELATIVE",
	}
	if s, ok := names[t]; ok {
		return "R_X86_64_" + s
	}
	return ""
}

func modelSize(t int) (int, api.Errno) {
	r, ok := modelRow(t)
	if !ok {
		return 0, api.ErrReloc
	}
	return r.size, api.OK
}

func modelValue(t int, p reloc.Place) (int, api.Errno) {
	r, ok := modelRow(t)
	if !ok {
		return 0, api.ErrReloc
	}
	numbers := map[rune]int{'S': p.S, 'A': p.A, 'P': p.P, 'G': p.G, 'T': p.Tp}
	limit := new(big.Int).Lsh(big.NewInt(1), 60)
	for _, n := range numbers {
		if new(big.Int).Abs(big.NewInt(int64(n))).Cmp(limit) > 0 {
			return 0, api.ErrRange
		}
	}
	sum, minus := new(big.Int), false
	for _, letter := range r.value {
		switch {
		case letter == '-':
			minus = true
		case minus:
			sum.Sub(sum, big.NewInt(int64(numbers[letter])))
		default:
			sum.Add(sum, big.NewInt(int64(numbers[letter])))
		}
	}
	return int(sum.Int64()), api.OK
}

func modelFits(t, v int) (bool, api.Errno) {
	r, ok := modelRow(t)
	if !ok {
		return false, api.ErrReloc
	}
	if r.low == "" {
		return true, api.OK
	}
	low, _ := new(big.Int).SetString(r.low, 10)
	high, _ := new(big.Int).SetString(r.high, 10)
	n := big.NewInt(int64(v))
	return n.Cmp(low) >= 0 && n.Cmp(high) <= 0, api.OK
}

func modelApply(b []byte, at, t int, p reloc.Place) ([]byte, api.Errno) {
	if len(b) > 1048576 {
		return nil, api.ErrSize
	}
	v, e := modelValue(t, p)
	if e != api.OK {
		return nil, e
	}
	size, _ := modelSize(t)
	to := append([]byte{}, b...)
	n := new(big.Int).Add(big.NewInt(int64(v)), new(big.Int).Lsh(big.NewInt(1), 64))
	for k := range size {
		place := new(big.Int).Add(big.NewInt(int64(at)), big.NewInt(int64(k)))
		if place.Sign() < 0 || place.Cmp(big.NewInt(int64(len(b)))) >= 0 {
			return nil, api.ErrReloc
		}
		low := new(big.Int)
		n.DivMod(n, big.NewInt(256), low)
		to[at+k] = byte(low.Int64())
	}
	if is, _ := modelFits(t, v); !is {
		return nil, api.ErrOverflow
	}
	return to, api.OK
}

// modelRelax goes through all instructions that may be relaxed, written down one by one.
func modelRelax(b []byte, at int) ([]byte, bool) {
	if at < 3 || at > len(b)-4 {
		return nil, false
	}
	for reg := range 16 {
		from := []byte{byte(0x48 + reg/8*4), 0x8b, byte(reg%8*8 + 5)}
		if string(b[at-3:at]) == string(from) {
			to := append([]byte{}, b...)
			to[at-2] = 0x8d
			return to, true
		}
	}
	return nil, false
}

func checkModel(t *testing.T, b []byte, at, kind int, p reloc.Place) {
	t.Helper()
	want, e := modelApply(b, at, kind, p)
	checkApply(t, b, at, kind, p, want, e)
}

// middling is a number of some 32 bits at most, seldom another one.
func middling(random *rand.Rand) int {
	if random.IntN(40) == 0 {
		return pick(random, edges()...)
	}
	return random.IntN(1<<uint(1+random.IntN(33))) - random.IntN(1<<uint(1+random.IntN(33)))
}

// TestP2003Model: random bytes, places and types, of which few are wrong.
func TestP2003Model(t *testing.T) {
	random := seeded(1)
	for range 60000 {
		kind := pick(random, worked()...)
		if random.IntN(30) == 0 {
			kind = random.IntN(50) - 5
		}
		b := numbered(random.IntN(20))
		p := reloc.Place{S: middling(random), A: middling(random), P: middling(random), G: middling(random), Tp: middling(random)}
		checkModel(t, b, random.IntN(len(b)+8)-4, kind, p)
	}
}

// TestP2002Model: the same of values and of what fits.
func TestP2002Model(t *testing.T) {
	random := seeded(2)
	for range 60000 {
		kind := pick(random, worked()...)
		p := reloc.Place{S: number(random), A: number(random), P: number(random), G: number(random), Tp: number(random)}
		v, e := modelValue(kind, p)
		checkValue(t, kind, p, v, e)
		n := number(random)
		is, e := modelFits(kind, n)
		checkFits(t, kind, n, is, e)
	}
}
