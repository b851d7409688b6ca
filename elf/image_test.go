package elf_test

import (
	"bytes"
	std "debug/elf"
	"io"
	"math"
	"slices"
	"strings"
	"testing"

	"gangway/api"
	"gangway/elf"
)

// tiny: one Load of one byte.
func tiny() elf.Image { return loaded([]int{page}, []int{1}, "\xc3") }

// changed: an image of which one segment is another one.
func changed(i elf.Image, k int, to func(*api.Segment)) elf.Image {
	i.Segments = slices.Clone(i.Segments)
	to(&i.Segments[k])
	return i
}

// rightIf: the image may be just if that holds.
func rightIf(t *testing.T, i elf.Image, holds bool) {
	t.Helper()
	if holds {
		checkRight(t, i, api.OK)
	} else {
		checkRight(t, i, api.ErrElf)
	}
}

func TestP902Images(t *testing.T) {
	checkRight(t, elf.Image{}, api.ErrElf)
	checkRight(t, tiny(), api.OK)
	checkRight(t, several(), api.OK)
	checkRight(t, loaded([]int{page}, []int{0}, ""), api.OK)
	checkRight(t, loaded([]int{page, page, page}, []int{0, 0, 0}, "", "", ""), api.OK)
	checkRight(t, elf.Image{Segments: []api.Segment{segment(2, 0, 0, 0, 0, 0, 1)}}, api.ErrElf)
}

func TestP902Entry(t *testing.T) {
	for _, entry := range append(wild(), 1<<40-1, 1<<41) {
		i := tiny()
		i.Entry = entry
		rightIf(t, i, entry >= 0 && entry <= greatAddress)
	}
}

func TestP902Segments(t *testing.T) {
	for n := range 20 {
		var addrs, memories []int
		for k := range n {
			addrs, memories = append(addrs, page*(k+1)), append(memories, page)
		}
		if n > 0 {
			rightIf(t, loaded(addrs, memories, strings.Split(strings.Repeat("x", n), "")...), n <= 16)
		}
		others := slices.Repeat([]api.Segment{segment(2, 4, page, page, 1, 1, 1)}, n)
		rightIf(t, with(tiny(), others...), n <= 15)
		checkRight(t, elf.Image{Entry: page, Segments: others}, api.ErrElf)
	}
}

// TestP902Loads: as many as there are segments of that type, which all stand first.
func TestP902Loads(t *testing.T) {
	i := several()
	for n := range 8 {
		j := i
		j.Loads = slices.Repeat([][]byte{nil}, n)
		copy(j.Loads, i.Loads)
		rightIf(t, j, n == 3)
	}
	later := with(loaded([]int{page, 2 * page}, []int{1, 1}, "a", "b"), segment(2, 4, page, page, 1, 1, 1))
	checkRight(t, later, api.OK)
	later.Segments[1], later.Segments[2] = later.Segments[2], later.Segments[1]
	checkRight(t, later, api.ErrElf)
	later.Loads = later.Loads[:1]
	checkRight(t, later, api.ErrElf)
	// One that lies in another one, behind a segment that is none.
	checkRight(t, with(tiny(), segment(2, 4, page, page, 1, 1, 1), segment(1, 5, page, page, 1, 1, page)), api.ErrElf)
	checkRight(t, with(tiny(), segment(2, 4, page, page, 1, 1, 1), segment(3, 5, page, page, 1, 1, page)), api.OK)
	first := with(elf.Image{Segments: []api.Segment{segment(2, 4, page, page, 1, 1, 1)}, Loads: [][]byte{{1}}}, tiny().Segments...)
	checkRight(t, first, api.ErrElf)
}

func TestP902SegmentTypes(t *testing.T) {
	for _, kind := range append(wild(), 7, 1685382480, 1<<32-2, 1<<32+2) {
		i := with(tiny(), segment(kind, 4, page, page, 1, 1, 1))
		rightIf(t, i, kind >= 2 && kind <= 1<<32-1)
		j := changed(tiny(), 0, func(s *api.Segment) { s.Type = kind })
		rightIf(t, j, kind == 1)
	}
}

// TestP902SegmentNumbers: Flags, Addr, Memory and Align of both kinds of segments.
func TestP902SegmentNumbers(t *testing.T) {
	both := with(loaded([]int{page}, []int{2}, "ab"), segment(2, 4, page, page, 1, 1, 8))
	for n := -300; n <= 300; n++ {
		for k := range 2 {
			rightIf(t, changed(both, k, func(s *api.Segment) { s.Flags = n }), n >= 0 && n <= 7)
		}
	}
	for _, n := range append(wild(), 1<<40-1, 1<<40+1) {
		for k := range 2 {
			rightIf(t, changed(both, k, func(s *api.Segment) { s.Flags = n }), n >= 0 && n <= 7)
		}
		rightIf(t, changed(both, 0, func(s *api.Segment) { s.Memory = n }), n >= 2 && n <= greatAddress)
		rightIf(t, changed(both, 1, func(s *api.Segment) { s.Memory = n }), n >= 0 && n <= greatAddress)
	}
	for n := -2; n <= 8194; n++ {
		rightIf(t, changed(both, 0, func(s *api.Segment) { s.Align = n }), n == page)
		rightIf(t, changed(both, 1, func(s *api.Segment) { s.Align = n }), modelAlign(n))
	}
	for _, n := range []int{math.MinInt, math.MaxInt, 1 << 13, 1 << 30, 1 << 62} {
		for k := range 2 {
			checkRight(t, changed(both, k, func(s *api.Segment) { s.Align = n }), api.ErrElf)
		}
	}
}

func TestP902LoadAddr(t *testing.T) {
	for _, n := range []int{math.MinInt, -page, -1, 0, 1, page - 1, page, page + 1, 2*page - 8, 2 * page, 3 * page, greatAddress - page, greatAddress - 1, greatAddress, greatAddress + 1, greatAddress + page, math.MaxInt - page + 1, math.MaxInt} {
		i := changed(tiny(), 0, func(s *api.Segment) { s.Addr = n })
		rightIf(t, i, n > 0 && n%page == 0 && n <= greatAddress)
	}
	i := changed(tiny(), 0, func(s *api.Segment) { s.Addr, s.Memory = greatAddress, greatAddress })
	checkRight(t, i, api.OK)
}

// TestP902LoadsApart: each begins where the one ahead of it ends in Memory, or behind that.
func TestP902LoadsApart(t *testing.T) {
	for memory := range 3*page + 2 {
		if memory%page > 2 && memory%page < page-2 {
			continue
		}
		for pages := range 6 {
			i := loaded([]int{2 * page, pages * page}, []int{max(memory, 1), 1}, "a", "b")
			rightIf(t, i, pages*page >= 2*page+max(memory, 1))
			rightIf(t, loaded([]int{2 * page, pages * page}, []int{memory, 1}, "", "b"), pages > 0 && pages*page >= 2*page+memory)
		}
	}
	checkRight(t, loaded([]int{3 * page, 2 * page, page}, []int{1, 1, 1}, "a", "b", "c"), api.ErrElf)
	checkRight(t, loaded([]int{page, 3 * page, 2 * page}, []int{1, 1, 1}, "a", "b", "c"), api.ErrElf)
	checkRight(t, loaded([]int{page, greatAddress}, []int{greatAddress - page, 9}, "a", "b"), api.OK)
	checkRight(t, loaded([]int{2 * page, greatAddress}, []int{greatAddress - page, 9}, "a", "b"), api.ErrElf)
}

// TestP902LoadSize: as many bytes as its Load has, at most Memory.
func TestP902LoadSize(t *testing.T) {
	for _, bytes := range []int{0, 1, 5, page} {
		for _, size := range append(wild(), bytes-1, bytes, bytes+1) {
			i := loaded([]int{page}, []int{2 * page}, long(bytes))
			rightIf(t, changed(i, 0, func(s *api.Segment) { s.Size = size }), size == bytes)
		}
		for _, memory := range []int{-1, 0, 1, bytes - 1, bytes, bytes + 1, greatAddress, greatAddress + 1} {
			rightIf(t, loaded([]int{page}, []int{memory}, long(bytes)), memory >= bytes && memory <= greatAddress)
		}
	}
}

// TestP902LoadOffsets: they follow from the bytes ahead.
func TestP902LoadOffsets(t *testing.T) {
	for _, n := range append(wild(), 0, 64, 120, page-1, page+1, 2*page) {
		rightIf(t, changed(tiny(), 0, func(s *api.Segment) { s.Offset = n }), n == page)
	}
	for size, want := range map[int]int{0: page, 1: 2 * page, page - 1: 2 * page, page: 2 * page, page + 1: 3 * page, 2 * page: 3 * page} {
		i := loaded([]int{page, 9 * page}, []int{2 * page, 1}, long(size), "x")
		for offset := 0; offset <= 5*page; offset += page / 2 {
			rightIf(t, changed(i, 1, func(s *api.Segment) { s.Offset = offset }), offset == want)
		}
	}
}

// TestP902Others: a segment of each place and size beside two Loads, the first one with Memory behind its bytes: from 4096 to 4106, and to 4116; from 8192 to 8195.
func TestP902Others(t *testing.T) {
	i := loaded([]int{page, 2 * page}, []int{20, 3}, "0123456789", "abc")
	for _, addr := range []int{-1, 0, 1, 4095, 4096, 4097, 4100, 4105, 4106, 4107, 4115, 4116, 4117, 8191, 8192, 8193, 8194, 8195, 8196, greatAddress, math.MaxInt, math.MinInt} {
		for _, size := range []int{math.MinInt, -4096, -1, 0, 1, 2, 3, 4, 5, 6, 7, 9, 10, 11, 20, 21, 4096, 4097, 4099, 1 << 40, math.MaxInt - 4096, math.MaxInt} {
			for _, offset := range []int{addr, addr - 1, 0, page} {
				j := with(i, segment(7, 4, addr, offset, size, 0, 1))
				end := min(addr, 1<<50) + min(size, 1<<50)
				there := size >= 0 && (addr >= 4096 && end <= 4106 || addr >= 8192 && end <= 8195 || size == 0 && addr >= 4096 && addr <= 4116)
				rightIf(t, j, there && offset == addr)
			}
		}
	}
}

// TestP902OthersOffset: that of the Load in which its bytes are; of one without bytes, where no Load has its place in the file, of the first one that has it in Memory.
func TestP902OthersOffset(t *testing.T) {
	// Memory from 4096 to 20480, from there to 24577, from 28672 on; in the file from 4096, 8192 and 12288 on.
	i := loaded([]int{page, 5 * page, 7 * page}, []int{4 * page, page + 1, page}, "0123456789", "abcde", "")
	for _, c := range []struct{ addr, size, offset int }{
		{page, 10, page},
		{page + 10, 0, page + 10},
		{page + 11, 0, page + 11},
		{5*page - 1, 0, 5*page - 1},
		{5 * page, 0, 2 * page}, // the end of the first one's Memory, but the second one has its place in the file
		{5 * page, 5, 2 * page},
		{5*page + 5, 0, 2*page + 5},
		{6*page + 1, 0, 3*page + 1}, // the end of the second one's Memory
		{7 * page, 0, 3 * page},
		{8 * page, 0, 4 * page},
	} {
		for offset := c.offset - 2*page; offset <= c.offset+4*page; offset += page {
			rightIf(t, with(i, segment(7, 4, c.addr, offset, c.size, 9, 1)), offset == c.offset)
		}
		checkRight(t, with(i, segment(7, 4, c.addr, c.offset+1, c.size, 9, 1)), api.ErrElf)
		checkRight(t, with(i, segment(7, 4, c.addr, c.offset-1, c.size, 9, 1)), api.ErrElf)
	}
	for _, addr := range []int{0, page - 1, 6*page + 2, 7*page - 1, 8*page + 1} {
		for offset := range 9 * page {
			if offset%page < 3 || offset%page == page-1 {
				checkRight(t, with(i, segment(7, 4, addr, offset, 0, 9, 1)), api.ErrElf)
			}
		}
	}
	// One without bytes where the Memory of one ends and another one without bytes begins: the latter has that place in the file.
	j := loaded([]int{page, 5 * page}, []int{4 * page, page}, "0", "")
	checkRight(t, with(j, segment(7, 4, 5*page, 2*page, 0, 0, 1)), api.OK)
	checkRight(t, with(j, segment(7, 4, 5*page, 5*page, 0, 0, 1)), api.ErrElf)
}

// eachImage: of up to three Loads and one other segment, right and wrong ones.
func eachImage(f func(elf.Image)) {
	for n := 1; n <= 3; n++ {
		for shape := range 8 * 8 * 8 {
			var addrs, memories []int
			var loads []string
			for k := range n {
				bits := shape >> (3 * k)
				addrs = append(addrs, page*(1+2*k-bits>>2&1))
				loads = append(loads, long([]int{0, 3, page, page + 5}[bits&3]))
				memories = append(memories, len(loads[k])+bits>>1&1*page)
			}
			i := loaded(addrs, memories, loads...)
			f(i)
			for _, addr := range []int{page, page + 3, 2 * page, 3*page + 2, 4 * page} {
				for _, size := range []int{0, 3} {
					f(with(i, segment(7, 4, addr, addr, size, 1, 1)))
				}
			}
		}
	}
}

func TestP902ImagesModel(t *testing.T) {
	right := 0
	eachImage(func(i elf.Image) {
		want := modelRight(i)
		checkRight(t, i, want)
		if want == api.OK {
			right++
		}
	})
	if right == 0 {
		t.Error("none that may be")
	}
}

// imageHead: by hand: of an image that begins there, of so many segments.
func imageHead(entry, count string) string {
	return "\x7fELF\x02\x01\x01" + zeros(9) + "\x03\x00\x3e\x00" + "\x01\x00\x00\x00" + number(entry) + number("\x40") + number("") + zeros(4) +
		"\x40\x00" + "\x38\x00" + count + "\x00" + "\x40\x00" + "\x00\x00" + "\x00\x00"
}

func checkSave(t *testing.T, i elf.Image, want string) {
	t.Helper()
	got := save(t, i)
	for k := range min(len(got), len(want)) {
		if got[k] != want[k] {
			t.Fatalf("Save(%s): at %d %d; want %d", short(i), k, got[k], want[k])
		}
	}
	if len(got) != len(want) {
		t.Fatalf("Save(%s): %d bytes; want %d", short(i), len(got), len(want))
	}
}

func TestP903ImageByHand(t *testing.T) {
	i := loaded([]int{0x21000, 0x123456000}, []int{5, 0x1000000000}, "load1", "load two")
	i.Entry = 0xfedcba9876
	i.Segments[0].Flags, i.Segments[1].Flags = 7, 6
	i = with(i, segment(0xfffffffe, 4, 0x123456001, 0x2001, 6, 0x0102030405, 64))
	heads := imageHead("\x76\x98\xba\xdc\xfe", "\x03") +
		"\x01\x00\x00\x00\x07\x00\x00\x00" + number("\x00\x10") + number("\x00\x10\x02") + number("\x00\x10\x02") + number("\x05") + number("\x05") + number("\x00\x10") +
		"\x01\x00\x00\x00\x06\x00\x00\x00" + number("\x00\x20") + number("\x00\x60\x45\x23\x01") + number("\x00\x60\x45\x23\x01") + number("\x08") + number("\x00\x00\x00\x00\x10") + number("\x00\x10") +
		"\xfe\xff\xff\xff\x04\x00\x00\x00" + number("\x01\x20") + number("\x01\x60\x45\x23\x01") + number("\x01\x60\x45\x23\x01") + number("\x06") + number("\x05\x04\x03\x02\x01") + number("\x40")
	checkSave(t, i, heads+zeros(page-len(heads))+"load1"+zeros(page-5)+"load two")
}

// TestP903EmptyLoads: they stand at their Offsets, too: there are bytes 0 up to there.
func TestP903EmptyLoads(t *testing.T) {
	if b := save(t, loaded([]int{page}, []int{9}, "")); len(b) != page {
		t.Error(len(b))
	}
	if b := save(t, loaded([]int{page, 2 * page}, []int{9, 9}, "x", "")); len(b) != 2*page {
		t.Error(len(b))
	}
	if b := save(t, loaded([]int{page, 2 * page}, []int{9, 9}, "", "x")); len(b) != page+1 {
		t.Error(len(b))
	}
}

func TestP903ImagesModel(t *testing.T) {
	checkSave(t, tiny(), string(modelSave(tiny())))
	checkSave(t, several(), string(modelSave(several())))
	eachImage(func(i elf.Image) {
		if modelRight(i) == api.OK {
			checkSave(t, i, string(modelSave(i)))
		}
	})
}

// TestP903MaxImage: 16 MaxBytes, in one Load and in several, and one more.
func TestP903MaxImage(t *testing.T) {
	much := strings.Repeat("d", maxImage+1)
	for n, want := range map[int]api.Errno{maxImage - 1: api.OK, maxImage: api.OK, maxImage + 1: api.ErrSize, maxImage + page + 1: api.ErrSize} {
		one := loaded([]int{page}, []int{greatAddress}, much[:n-page])
		two := loaded([]int{page, maxImage}, []int{8 * page, greatAddress}, "x", much[:n-2*page])
		empty := loaded([]int{page, 4 * maxImage}, []int{2 * maxImage, greatAddress}, much[:n-page], "")
		for _, i := range []elf.Image{one, two} {
			b, e := elf.Save(i)
			if elf.Right(i) != api.OK || e != want || e == api.OK && len(b) != n || e != api.OK && len(b) != 0 {
				t.Errorf("%d: %d bytes, %d; want %d", n, len(b), e, want)
			}
		}
		if b, e := elf.Save(empty); elf.Right(empty) != api.OK || (e == api.OK) != (n <= maxImage) || e == api.OK && len(b) != maxImage {
			t.Errorf("%d: %d bytes, %d", n, len(b), e)
		}
	}
	// What may not be is told ahead of that.
	checkRight(t, loaded([]int{page + 1}, []int{greatAddress}, much), api.ErrElf)
}

// TestP908Loads: each at its Offset.
func TestP908Loads(t *testing.T) {
	eachImage(func(i elf.Image) {
		if modelRight(i) != api.OK {
			return
		}
		b := save(t, i)
		for k, l := range i.Loads {
			at := i.Segments[k].Offset
			if at > len(b) || !bytes.HasPrefix(b[at:], l) {
				t.Fatalf("%s: not at %d", short(i), at)
			}
		}
	})
}

// TestP908OtherReader: what another reader of such files makes of an image.
func TestP908OtherImageReader(t *testing.T) {
	i := several()
	x, err := std.NewFile(bytes.NewReader(save(t, i)))
	if err != nil {
		t.Fatal(err)
	}
	if x.Type != std.ET_DYN || x.Machine != std.EM_X86_64 || int(x.Entry) != i.Entry || len(x.Progs) != len(i.Segments) {
		t.Fatalf("%+v, %d segments", x.FileHeader, len(x.Progs))
	}
	for k, s := range i.Segments {
		p := x.Progs[k]
		got := segment(int(p.Type), int(p.Flags), int(p.Vaddr), int(p.Off), int(p.Filesz), int(p.Memsz), int(p.Align))
		if got != s || p.Paddr != p.Vaddr {
			t.Errorf("%+v; want %+v", got, s)
		}
		if k < len(i.Loads) {
			if data, err := io.ReadAll(p.Open()); err != nil || !bytes.Equal(data, i.Loads[k]) {
				t.Errorf("%q, %v", data, err)
			}
		}
	}
}
