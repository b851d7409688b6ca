package encode_test

import (
	"bytes"
	"math"
	"math/big"
	"slices"
	"testing"

	"gangway/api"
	"gangway/encode"
)

func TestP402Examples(t *testing.T) {
	for _, c := range []struct {
		at, size, v int
		want        string
		e           api.Errno
	}{
		{1, 4, -2, "01 fe ff ff ff 06 07 08 09 0a", 0},
		{0, 1, 127, "7f 02 03 04 05 06 07 08 09 0a", 0},
		{9, 1, -128, "01 02 03 04 05 06 07 08 09 80", 0},
		{0, 4, 1<<31 - 1, "ff ff ff 7f 05 06 07 08 09 0a", 0},
		{6, 4, -1 << 31, "01 02 03 04 05 06 00 00 00 80", 0},
		{0, 8, math.MinInt, "00 00 00 00 00 00 00 80 09 0a", 0},
		{2, 8, math.MaxInt, "01 02 ff ff ff ff ff ff ff 7f", 0},
		{3, 4, 0x01020304, "01 02 03 04 03 02 01 08 09 0a", 0},
		{10, 1, 0, "", api.ErrRange},
		{7, 4, 0, "", api.ErrRange},
		{3, 8, 0, "", api.ErrRange},
		{-1, 1, 0, "", api.ErrRange},
		{-4, 4, 0, "", api.ErrRange},
		{math.MinInt, 4, 0, "", api.ErrRange},
		{math.MaxInt, 1, 0, "", api.ErrRange},
		{math.MaxInt - 3, 4, 0, "", api.ErrRange},
		{0, 0, 0, "", api.ErrRange},
		{0, 2, 0, "", api.ErrRange},
		{0, 3, 0, "", api.ErrRange},
		{0, 5, 0, "", api.ErrRange},
		{0, 16, 0, "", api.ErrRange},
		{0, -1, 0, "", api.ErrRange},
		{0, -8, 0, "", api.ErrRange},
		{0, 1<<32 + 4, 0, "", api.ErrRange},
		{0, math.MaxInt, 0, "", api.ErrRange},
		{0, math.MinInt, 0, "", api.ErrRange},
		{0, 1, 128, "", api.ErrOverflow},
		{0, 1, -129, "", api.ErrOverflow},
		{0, 1, 255, "", api.ErrOverflow},
		{0, 4, 1 << 31, "", api.ErrOverflow},
		{0, 4, -1<<31 - 1, "", api.ErrOverflow},
		{0, 4, 1<<32 - 1, "", api.ErrOverflow},
		{0, 4, math.MinInt, "", api.ErrOverflow},
		{10, 1, 128, "", api.ErrRange},
		{0, 2, 1 << 40, "", api.ErrRange},
	} {
		b := []byte{1, 2, 3, 4, 5, 6, 7, 8, 9, 10}
		got, e := encode.Fill(b, api.Hole{At: c.at, Size: c.size, Type: api.RPc32, Name: "f", Add: 77}, c.v)
		if encode.Text(got) != c.want || e != c.e {
			t.Errorf("Fill(%d, %d, %d): %s, %d; want %s, %d", c.at, c.size, c.v, encode.Text(got), e, c.want, c.e)
		}
		if !bytes.Equal(b, []byte{1, 2, 3, 4, 5, 6, 7, 8, 9, 10}) {
			t.Errorf("Fill(%d, %d, %d) has changed its bytes: %v", c.at, c.size, c.v, b)
		}
	}
}

// wantedFill: as the chapter says it, by true numbers.
func wantedFill(b []byte, h api.Hole, v int) ([]byte, api.Errno) {
	at, size := big.NewInt(int64(h.At)), big.NewInt(int64(h.Size))
	end := new(big.Int).Add(at, size)
	if !slices.Contains([]int{1, 4, 8}, h.Size) || at.Sign() < 0 || end.Cmp(big.NewInt(int64(len(b)))) > 0 {
		return nil, api.ErrRange
	}
	half := new(big.Int).Lsh(big.NewInt(1), uint(8*h.Size-1))
	n := big.NewInt(int64(v))
	if n.Cmp(new(big.Int).Neg(half)) < 0 || n.Cmp(half) >= 0 {
		return nil, api.ErrOverflow
	}
	out := append([]byte{}, b[:h.At]...)
	return append(appendLow(out, v, h.Size), b[h.At+h.Size:]...), api.OK
}

// TestP402Fill: bytes of each length from none on, places and sizes about both ends and wild ones, values about both ends of what fits.
func TestP402Fill(t *testing.T) {
	places := append(wild(), 6, 7, 9, 10, 11, 12)
	sizes := append(wild(), 6, 7, 9)
	for length := range 18 {
		b := bytes.Repeat([]byte{0xa5}, length)
		for _, at := range places {
			for _, size := range sizes {
				for _, v := range append(numbers(), 2, 0x0807060504030201) {
					h := api.Hole{At: at, Size: size}
					want, we := wantedFill(b, h, v)
					if got, e := encode.Fill(b, h, v); !bytes.Equal(got, want) || e != we {
						t.Fatalf("Fill(%d bytes, %+v, %d): %v, %d; want %v, %d", length, h, v, got, e, want, we)
					}
				}
			}
		}
	}
}

// TestP402OwnMemory: what was handed in, and the room behind it, is neither changed nor shared.
func TestP402OwnMemory(t *testing.T) {
	whole := []byte{1, 2, 3, 4, 5, 6, 7, 8, 9, 10, 11, 12}
	before := bytes.Clone(whole)
	b := whole[2:8]
	for _, size := range []int{1, 4} {
		for at := range 3 {
			got, e := encode.Fill(b, api.Hole{At: at, Size: size}, -3)
			if e != api.OK || len(got) != len(b) {
				t.Errorf("Fill: %v, %d", got, e)
			}
			room := got[:cap(got)]
			for k := range room {
				room[k] ^= 255
			}
			if !bytes.Equal(whole, before) {
				t.Fatalf("Fill(%d, %d): %v", at, size, whole)
			}
		}
	}
}

// TestP402HolesOfInstructions: a hole of Bytes is one that Fill takes, and the others stay.
func TestP402HolesOfInstructions(t *testing.T) {
	eachInstruction(func(i api.Inst) {
		b, holes, _ := encode.Bytes(i)
		for _, h := range holes {
			want := bytes.Clone(b)
			for k := range h.Size {
				want[h.At+k] = 255
			}
			if got, e := encode.Fill(b, h, -1); !bytes.Equal(got, want) || e != api.OK {
				t.Fatalf("Fill(%v, %+v): %v, %d", b, h, got, e)
			}
		}
	})
}

func TestP403Text(t *testing.T) {
	for _, c := range []struct {
		b    []byte
		want string
	}{
		{nil, ""},
		{[]byte{}, ""},
		{[]byte{0}, "00"},
		{[]byte{9}, "09"},
		{[]byte{10}, "0a"},
		{[]byte{255}, "ff"},
		{[]byte{0x48, 0x89, 0xc3}, "48 89 c3"},
		{[]byte{0, 0, 0}, "00 00 00"},
		{[]byte{1, 0x23, 0x45, 0x67, 0x89, 0xab, 0xcd, 0xef}, "01 23 45 67 89 ab cd ef"},
	} {
		if got := encode.Text(c.b); got != c.want {
			t.Errorf("Text(%v): %q; want %q", c.b, got, c.want)
		}
	}
}

func TestP403EachByte(t *testing.T) {
	all, want := make([]byte, 256), ""
	for x := range all {
		all[x] = byte(x)
		digits := "0123456789abcdef"[x/16:x/16+1] + "0123456789abcdef"[x%16:x%16+1]
		if got := encode.Text(all[x : x+1]); got != digits {
			t.Errorf("Text(%d): %q", x, got)
		}
		want += " " + digits
	}
	if got := encode.Text(all); got != want[1:] {
		t.Errorf("Text: %q", got)
	}
}
