package elf_test

import (
	"bytes"
	"slices"
	"strings"
	"testing"

	"gangway/api"
	"gangway/elf"
)

func shut(t *testing.T, b []byte) {
	t.Helper()
	checkOpen(t, b, elf.Image{}, api.ErrElf)
}

func TestP904Open(t *testing.T) {
	shut(t, nil)
	shut(t, []byte{})
	checkOpen(t, save(t, tiny()), tiny(), api.OK)
	checkOpen(t, modelSave(several()), several(), api.OK)
	checkOpen(t, modelSave(loaded([]int{page}, []int{7}, "")), loaded([]int{page}, []int{7}, ""), api.OK)
	// An object is no image, and an image no object.
	shut(t, write(t, some()))
	refused(t, save(t, several()))
}

func TestP904MaxImage(t *testing.T) {
	i := loaded([]int{page}, []int{greatAddress}, strings.Repeat("d", maxImage-page))
	b := save(t, i)
	checkOpen(t, b, i, api.OK)
	b = append(b, 'd')
	checkOpen(t, b, elf.Image{}, api.ErrSize)
	shut(t, b[:maxImage-1])
	shut(t, make([]byte, maxImage))
	checkOpen(t, make([]byte, maxImage+1), elf.Image{}, api.ErrSize)
	copy(b[96:], bytesOf(8, maxImage+1-page))
	checkOpen(t, b, elf.Image{}, api.ErrSize)
}

// TestP904EachByteOfImages: each byte of heads as other ones, and some of the others.
func TestP904EachByteOfImages(t *testing.T) {
	for _, i := range []elf.Image{tiny(), several()} {
		b := save(t, i)
		right := 0
		for k, was := range b {
			if k > 600 && k%page > 10 && k%509 > 0 {
				continue
			}
			for _, turned := range turns(k < 176) {
				b[k] = was ^ turned
				want, e := modelOpen(b)
				checkOpen(t, b, want, e)
				if e == api.OK {
					right++
				}
			}
			b[k] = was
		}
		if right == 0 {
			t.Error("no other images")
		}
	}
}

// TestP904ImageFields: by hand.
func TestP904ImageFields(t *testing.T) {
	i := with(loaded([]int{page}, []int{2}, "ab"), segment(2, 4, page, page, 1, 1, 8))
	b := save(t, i)
	change := func(at int, value byte) []byte {
		other := bytes.Clone(b)
		other[at] = value
		return other
	}
	for _, c := range []struct {
		at    int
		value byte
		to    func(*elf.Image)
	}{
		{24, 3, func(i *elf.Image) { i.Entry = page + 3 }},
		{29, 0, func(i *elf.Image) {}},
		{68, 7, func(i *elf.Image) { i.Segments[0].Flags = 7 }},
		{104, 9, func(i *elf.Image) { i.Segments[0].Memory = 9 }},
		{120, 7, func(i *elf.Image) { i.Segments[1].Type = 7 }},
		{123, 255, func(i *elf.Image) { i.Segments[1].Type = 2 + 255<<24 }},
		{124, 0, func(i *elf.Image) { i.Segments[1].Flags = 0 }},
		{152, 2, func(i *elf.Image) { i.Segments[1].Size = 2 }},
		{152, 0, func(i *elf.Image) { i.Segments[1].Size = 0 }},
		{160, 0, func(i *elf.Image) { i.Segments[1].Memory = 0 }},
		{168, 1, func(i *elf.Image) { i.Segments[1].Align = 1 }},
		{page + 1, 'z', func(i *elf.Image) { i.Loads[0][1] = 'z' }},
	} {
		want := with(loaded([]int{page}, []int{2}, "ab"), segment(2, 4, page, page, 1, 1, 8))
		c.to(&want)
		checkOpen(t, change(c.at, c.value), want, api.OK)
	}
	for at, value := range map[int]byte{
		0: 126, 3: 'f', 4: 1, 6: 2, 8: 1, 15: 9, 16: 1, 17: 1, 18: 3, 20: 0, 30: 1, 31: 128, 32: 63, 40: 64, 48: 1, 52: 63, 54: 55, 56: 1, 57: 1, 58: 0, 60: 1, 62: 1, // the file's head
		64: 2, 65: 1, 68: 8, 69: 1, 73: 32, 81: 32, 89: 32, 88: 1, 96: 1, 97: 1, 103: 128, 104: 1, 110: 1, 113: 8, 112: 1, // the Load
		120: 1, 125: 1, 128: 1, 136: 1, 144: 1, 152: 3, 159: 255, 166: 1, 168: 3, 168 + 1: 32, // the other one
		176: 1, page - 1: 1, // ahead of the bytes
	} {
		if b[at] == value {
			t.Fatalf("%d is %d", at, value)
		}
		shut(t, change(at, value))
	}
	shut(t, change(120, 0))
}

// TestP904Overlapping: Loads that all tell the same bytes.
func TestP904Overlapping(t *testing.T) {
	b := make([]byte, maxImage)
	copy(b, imageHead("", "\x10"))
	for k := range 16 {
		copy(b[64+56*k:], bytesOf(4, 1, 5))
		copy(b[64+56*k+8:], bytesOf(8, page, page*(k+1), page*(k+1), maxImage-page, maxImage-page, page))
	}
	shut(t, b)
	for k := range 65535 {
		copy(b[64+56*k:], bytesOf(4, 1, 5))
		copy(b[64+56*k+8:], bytesOf(8, 0, page*(k+1), page*(k+1), maxImage, maxImage, page))
	}
	copy(b[56:], bytesOf(2, 65535))
	shut(t, b)
}

// TestP904ImageNumbers: each number of each head as each wild one.
func TestP904ImageNumbers(t *testing.T) {
	i := several()
	b := save(t, i)
	for k := range i.Segments {
		for _, field := range [][2]int{{0, 4}, {4, 4}, {8, 8}, {16, 8}, {24, 8}, {32, 8}, {40, 8}, {48, 8}} {
			for _, n := range append(wild(), len(b), len(b)-1, len(b)+1, 12288, 20480) {
				other := bytes.Clone(b)
				copy(other[64+56*k+field[0]:], bytesOf(field[1], n))
				want, e := modelOpen(other)
				checkOpen(t, other, want, e)
			}
		}
	}
	for _, count := range []int{0, 1, 2, 3, 6, 8, 16, 17, 255, 65535} {
		other := bytes.Clone(b)
		copy(other[56:], bytesOf(2, count))
		shut(t, other)
	}
}

func TestP906Images(t *testing.T) {
	check := func(i elf.Image) {
		b := save(t, i)
		checkOpen(t, b, i, api.OK)
		got, _ := elf.Open(b)
		if again := save(t, got); !bytes.Equal(again, b) {
			t.Fatalf("%s: not the same bytes again", short(i))
		}
	}
	check(tiny())
	check(several())
	eachImage(func(i elf.Image) {
		if modelRight(i) == api.OK {
			check(i)
		}
	})
	most := loaded([]int{greatAddress}, []int{greatAddress}, "x")
	most.Entry = greatAddress
	check(most)
	check(with(most, slices.Repeat([]api.Segment{segment(1<<32-1, 7, 1<<40, page, 1, 1<<40, 4096)}, 15)...))
}

// TestP907Images: less, from either end, and more.
func TestP907Images(t *testing.T) {
	for _, i := range []elf.Image{tiny(), several(), loaded([]int{page}, []int{7}, "")} {
		b := save(t, i)
		for n := range len(b) {
			if n > 600 && n < len(b)-20 && n%101 > 0 {
				continue
			}
			shut(t, b[:n])
			shut(t, b[n+1:])
			shut(t, slices.Delete(bytes.Clone(b), n, n+1))
			shut(t, slices.Insert(bytes.Clone(b), n, 1))
		}
		for x := range 256 {
			shut(t, append(bytes.Clone(b), byte(x)))
			shut(t, append([]byte{byte(x)}, b...))
		}
	}
}
