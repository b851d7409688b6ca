package tls_test

import (
	"fmt"
	"math/big"
	"math/rand/v2"
	"strings"
	"sync"
	"testing"

	"gangway/api"
	"gangway/tls"
)

// A slow model of the chapter: its tables as texts, which are gone through register by register.

const callee = "__tls_get_addr"

// row: an access of one register: its bytes, what it becomes (below 0 where a hole is), the type of its relocation.
type row struct {
	model, reg, kind int
	from, to         []int
}

var rows = sync.OnceValue(table)

func table() []row {
	const base = "64 48 8b 04 25 00 00 00 00 "
	l := []row{
		{1, 0, 19, spread("66 48 8d 3d .... 66 66 48 e8 ...."), spread(base + "48 8d 80 ....")},
		{2, 0, 20, spread("48 8d 3d .... e8 ...."), spread(base + "90 90 90")},
	}
	for r := range 16 {
		load, number := "48", "48"
		if r >= 8 {
			load, number = "4c", "49"
		}
		to := spread(fmt.Sprintf("%s c7 %x ....", number, 0xc0+r%8))
		l = append(l,
			row{3, r, 22, spread(fmt.Sprintf("%s 8b %02x ....", load, 5+8*(r%8))), to},
			row{4, r, 23, to, to})
	}
	return l
}

// spread is a text's bytes, as numbers below 0 where a hole is.
func spread(text string) []int {
	var l []int
	for _, word := range strings.Fields(text) {
		if word == "...." {
			l = append(l, -1, -1, -1, -1)
			continue
		}
		var n int
		fmt.Sscanf(word, "%x", &n)
		l = append(l, n)
	}
	return l
}

// filled is the bytes with such a number in each of their holes.
func filled(l []int, n int) []byte {
	var b []byte
	place := 0
	for _, x := range l {
		if x < 0 {
			x = n >> (8 * (place % 4)) & 255
			place++
		}
		b = append(b, byte(x))
	}
	return b
}

func firstHole(l []int) int {
	for k, x := range l {
		if x < 0 {
			return k
		}
	}
	return -1
}

func modelCode(model, reg int, name string) ([]byte, []api.Hole, api.Errno) {
	for _, r := range rows() {
		if r.model != model || r.reg != reg || len(name) < 1 || len(name) > 255 {
			continue
		}
		hole := api.Hole{At: firstHole(r.from), Size: 4, Type: r.kind, Name: name, Add: -4}
		holes := []api.Hole{hole}
		switch model {
		case 1:
			holes = append(holes, api.Hole{At: 12, Size: 4, Type: 4, Name: callee, Add: -4})
		case 2:
			holes = append(holes, api.Hole{At: 8, Size: 4, Type: 4, Name: callee, Add: -4})
		case 4:
			holes[0].Add = 0
		}
		return filled(r.from, 0), holes, api.OK
	}
	return nil, nil, api.ErrArg
}

// modelRow is the row whose bytes are around a place; of Exec any one.
func modelRow(b []byte, at, kind int) (r row, from, size int, is bool) {
	for _, r := range rows() {
		if r.kind != kind {
			continue
		}
		if r.model == 4 {
			return r, at, 4, at >= 0 && at <= len(b)-4
		}
		want := r.from
		if at < firstHole(r.from) || at > len(b) {
			continue
		}
		from := at - firstHole(r.from)
		if from+len(want) > len(b) {
			continue
		}
		same := true
		for k, x := range want {
			same = same && (x < 0 || x == int(b[from+k]))
		}
		if same {
			return r, from, len(want), true
		}
	}
	return row{}, 0, 0, false
}

func modelFind(b []byte, at, kind int) (model, from, size int, e api.Errno) {
	r, from, size, is := modelRow(b, at, kind)
	if !is {
		return 0, 0, 0, api.ErrTls
	}
	return r.model, from, size, api.OK
}

func modelRelax(b []byte, at, kind, offset int) ([]byte, api.Errno) {
	if len(b) > 1048576 {
		return nil, api.ErrSize
	}
	r, from, size, is := modelRow(b, at, kind)
	if !is {
		return nil, api.ErrTls
	}
	if new(big.Int).Rsh(new(big.Int).Add(big.NewInt(int64(offset)), big.NewInt(1<<31)), 32).Sign() != 0 {
		return nil, api.ErrOverflow
	}
	piece := r.to
	if r.model == 4 {
		piece = spread("....")
	}
	to := append([]byte{}, b[:from]...)
	to = append(to, filled(piece, offset)...)
	return append(to, b[from+size:]...), api.OK
}

func modelBlock(data []byte, size, align int) ([]byte, int, api.Errno) {
	power := false
	for n := range 13 {
		power = power || align == 1<<n
	}
	if !power || size < len(data) || size > 1048576 {
		return nil, 0, api.ErrArg
	}
	b := append([]byte{}, data...)
	for len(b) < size || len(b)%align != 0 {
		b = append(b, 0)
	}
	return append(b, 0, 0, 0, 0, 0, 0, 0, 0), len(b), api.OK
}

func checkModel(t *testing.T, b []byte, at, kind, offset int) {
	t.Helper()
	model, from, size, e := modelFind(b, at, kind)
	checkFind(t, b, at, kind, model, from, size, e)
	want, e := modelRelax(b, at, kind, offset)
	checkRelax(t, b, at, kind, offset, want, e)
}

// sequence is an access of any model and register, with some numbers in its holes, seldom with a byte that is another one.
func sequence(random *rand.Rand) (b []byte, at, kind int) {
	r := pick(random, rows()...)
	for _, x := range r.from {
		if x < 0 || random.IntN(100) == 0 {
			x = random.IntN(256)
		}
		b = append(b, byte(x))
	}
	return b, firstHole(r.from), r.kind
}

// TestP2103Model: accesses among other bytes, asked at their places and about them, of which few are wrong.
func TestP2103Model(t *testing.T) {
	random := seeded(1)
	found := map[int]int{}
	for range 80000 {
		piece, at, kind := sequence(random)
		b := append(numbered(random.IntN(9)), piece...)
		at += len(b) - len(piece)
		b = append(b, numbered(random.IntN(9))...)
		if random.IntN(10) == 0 {
			at += random.IntN(9) - 4
		}
		if random.IntN(20) == 0 {
			b = b[:random.IntN(len(b)+1)]
		}
		if random.IntN(20) == 0 {
			kind = pick(random, types()...)
		}
		if random.IntN(40) == 0 {
			kind = random.IntN(40)
		}
		checkModel(t, b, at, kind, pick(random, offsets()...))
		model, _, _, _ := tls.Find(b, at, kind)
		found[model]++
	}
	for model := range 5 {
		if found[model] < 1000 {
			t.Error("too few of model", model, found)
		}
	}
}

// TestP2105Model: random data, sizes and aligns.
func TestP2105Model(t *testing.T) {
	random := seeded(2)
	for range 20000 {
		data := numbered(random.IntN(40))
		size := len(data) + random.IntN(1<<uint(random.IntN(12)))
		align := 1 << random.IntN(13)
		if random.IntN(10) == 0 {
			size = random.IntN(60) - 10
		}
		if random.IntN(10) == 0 {
			align = random.IntN(10000) - 1000
		}
		want, fs, e := modelBlock(data, size, align)
		checkBlock(t, data, size, align, want, fs, e)
	}
}
