package elf_test

import (
	"bytes"
	"math"
	"slices"
	"testing"

	"gangway/api"
	"gangway/elf"
)

func rela(at, kind, add int) elf.Rela { return elf.Rela{At: at, Type: kind, Add: add} }

func entry(tag, value int) elf.Entry { return elf.Entry{Tag: tag, Value: value} }

func checkRelas(t *testing.T, l []elf.Rela, want []byte, e api.Errno) {
	t.Helper()
	if b, got := elf.Relas(l); !bytes.Equal(b, want) || got != e {
		t.Fatalf("Relas(%s): % x, %d; want % x, %d", short(l), b[:min(len(b), 48)], got, want[:min(len(want), 48)], e)
	}
}

func checkReadRelas(t *testing.T, b []byte, want []elf.Rela, e api.Errno) {
	t.Helper()
	if l, got := elf.ReadRelas(b); !slices.Equal(l, want) || got != e {
		t.Fatalf("ReadRelas(%s), %d bytes: %s, %d; want %s, %d", short(b), len(b), short(l), got, short(want), e)
	}
}

func checkEntries(t *testing.T, l []elf.Entry, want []byte, e api.Errno) {
	t.Helper()
	if b, got := elf.Entries(l); !bytes.Equal(b, want) || got != e {
		t.Fatalf("Entries(%s): % x, %d; want % x, %d", short(l), b[:min(len(b), 48)], got, want[:min(len(want), 48)], e)
	}
}

func checkReadEntries(t *testing.T, b []byte, want []elf.Entry, e api.Errno) {
	t.Helper()
	if l, got := elf.ReadEntries(b); !slices.Equal(l, want) || got != e {
		t.Fatalf("ReadEntries(%s), %d bytes: %s, %d; want %s, %d", short(b), len(b), short(l), got, short(want), e)
	}
}

// longs: of a list of numbers, as bytes.
func longs(l ...int) []byte { return bytesOf(8, l...) }

func TestP905Example(t *testing.T) {
	b := []byte{0, 32, 0, 0, 0, 0, 0, 0, 8, 0, 0, 0, 0, 0, 0, 0, 0, 16, 0, 0, 0, 0, 0, 0}
	checkRelas(t, []elf.Rela{rela(8192, 8, 4096)}, b, api.OK)
	checkReadRelas(t, b, []elf.Rela{rela(8192, 8, 4096)}, api.OK)
	checkRelas(t, nil, nil, api.OK)
	checkReadRelas(t, nil, nil, api.OK)
	b = append([]byte{1, 2, 3, 4, 5, 0, 0, 0, 255, 0, 0, 0, 0, 0, 0, 0, 254, 255, 255, 255, 255, 255, 255, 255}, b...)
	checkRelas(t, []elf.Rela{rela(0x0504030201, 255, -2), rela(8192, 8, 4096)}, b, api.OK)
	checkReadRelas(t, b, []elf.Rela{rela(0x0504030201, 255, -2), rela(8192, 8, 4096)}, api.OK)

	b = []byte{7, 0, 0, 0, 0, 0, 0, 0, 5, 1, 0, 0, 0, 0, 0, 0, 0, 0, 0, 0, 0, 0, 0, 0, 0, 0, 0, 0, 0, 0, 0, 0}
	checkEntries(t, []elf.Entry{entry(7, 261)}, b, api.OK)
	checkReadEntries(t, b, []elf.Entry{entry(7, 261)}, api.OK)
	checkEntries(t, nil, make([]byte, 16), api.OK)
	checkReadEntries(t, make([]byte, 16), nil, api.OK)
	checkReadEntries(t, nil, nil, api.ErrElf)
}

// TestP905RelaNumbers: each number at both ends and past them.
func TestP905RelaNumbers(t *testing.T) {
	check := func(r elf.Rela, right bool) {
		t.Helper()
		ok := rela(1, 2, 3)
		for _, l := range [][]elf.Rela{{r}, {ok, r}, {r, ok}} {
			var b []byte
			for _, r := range l {
				b = append(b, longs(r.At, r.Type, r.Add)...)
			}
			if right {
				checkRelas(t, l, b, api.OK)
				checkReadRelas(t, b, l, api.OK)
			} else {
				checkRelas(t, l, nil, api.ErrRange)
				checkReadRelas(t, b, nil, api.ErrElf)
			}
		}
	}
	for _, n := range append(wild(), greatAddress-1, greatAddress, greatAddress+1, greatAdd-1, -greatAdd-1, -greatAdd, 1-greatAdd, 254, 255, 256, 257, 1<<32+8) {
		check(rela(n, 0, 0), n >= 0 && n <= greatAddress)
		check(rela(0, n, 0), n >= 0 && n <= 255)
		check(rela(0, 0, n), n >= -greatAdd && n <= greatAdd)
	}
}

func TestP905EntryNumbers(t *testing.T) {
	check := func(x elf.Entry, right bool) {
		t.Helper()
		ok := entry(1, 2)
		for _, l := range [][]elf.Entry{{x}, {ok, x}, {x, ok}} {
			var b []byte
			for _, x := range l {
				b = append(b, longs(x.Tag, x.Value)...)
			}
			b = append(b, make([]byte, 16)...)
			if right {
				checkEntries(t, l, b, api.OK)
				checkReadEntries(t, b, l, api.OK)
			} else {
				checkEntries(t, l, nil, api.ErrRange)
				if x.Tag != 0 {
					checkReadEntries(t, b, nil, api.ErrElf)
				}
			}
		}
	}
	for _, n := range append(wild(), greatAddress-1, greatAddress, greatAddress+1) {
		check(entry(n, 5), n > 0 && n <= greatAddress)
		check(entry(n, 0), n > 0 && n <= greatAddress)
		check(entry(5, n), n >= 0 && n <= greatAddress)
		check(entry(0, n), false)
	}
}

func TestP905MaxRelocs(t *testing.T) {
	many := slices.Repeat([]elf.Rela{rela(greatAddress, 255, -greatAdd)}, 4002)
	for n, e := range map[int]api.Errno{3999: api.OK, 4000: api.OK, 4001: api.ErrSize, 4002: api.ErrSize} {
		l, b := many[:n], bytes.Repeat(longs(greatAddress, 255, -greatAdd), n)
		if e == api.OK {
			checkRelas(t, l, b, e)
			checkReadRelas(t, b, l, e)
		} else {
			checkRelas(t, l, nil, e)
			checkReadRelas(t, b, nil, e)
		}
		// Too many, and one that may not be; bytes that are no whole ones: each as the chapter has it first.
		bad := slices.Clone(l)
		for _, at := range []int{0, n / 2, n - 1} {
			bad[at].Type = 256
			checkRelas(t, bad, nil, max(api.ErrRange*(1-min(e, 1)), e))
			other := bytes.Clone(b)
			other[24*at+9] = 1
			checkReadRelas(t, other, nil, api.ErrElf)
			bad[at].Type = 255
		}
		for _, more := range []int{1, 8, 16, 23} {
			checkReadRelas(t, append(bytes.Clone(b), make([]byte, more)...), nil, api.ErrElf)
		}
	}
}

func TestP905MaxEntries(t *testing.T) {
	many := slices.Repeat([]elf.Entry{entry(greatAddress, greatAddress)}, 70)
	for n, e := range map[int]api.Errno{63: api.OK, 64: api.OK, 65: api.ErrSize, 66: api.ErrSize, 70: api.ErrSize} {
		l, all := many[:n], bytes.Repeat(longs(greatAddress, greatAddress), n)
		b := append(bytes.Clone(all), make([]byte, 16)...)
		if e == api.OK {
			checkEntries(t, l, b, e)
			checkReadEntries(t, b, l, e)
		} else {
			checkEntries(t, l, nil, e)
			checkReadEntries(t, b, nil, e)
		}
		bad := slices.Clone(l)
		for _, at := range []int{0, n / 2, n - 1} {
			for _, wrong := range []elf.Entry{entry(0, 1), entry(-1, 0), entry(1, -1)} {
				bad[at] = wrong
				checkEntries(t, bad, nil, max(api.ErrRange*(1-min(e, 1)), e))
			}
			other := bytes.Clone(b)
			other[16*at+15] = 1
			checkReadEntries(t, other, nil, api.ErrElf)
			other = bytes.Clone(b)
			other[16*at+7] = 128
			checkReadEntries(t, other, nil, api.ErrElf)
			bad[at] = l[0]
		}
		// None has the Tag 0; bytes that are no whole ones.
		checkReadEntries(t, all, nil, api.ErrElf)
		for more := 1; more < 16; more++ {
			checkReadEntries(t, append(bytes.Clone(b), make([]byte, more)...), nil, api.ErrElf)
		}
	}
}

// TestP905Lengths: no multiple, and each one.
func TestP905Lengths(t *testing.T) {
	for n := range 200 {
		if n%24 == 0 {
			checkReadRelas(t, make([]byte, n), slices.Repeat([]elf.Rela{{}}, n/24), api.OK)
		} else {
			checkReadRelas(t, make([]byte, n), nil, api.ErrElf)
		}
		if n%16 == 0 && n > 0 {
			checkReadEntries(t, make([]byte, n), nil, api.OK)
		} else {
			checkReadEntries(t, make([]byte, n), nil, api.ErrElf)
		}
	}
	b := longs(7, 1, 8, 2, 0, 0)
	for n := range len(b) {
		checkReadEntries(t, b[:n], nil, api.ErrElf)
	}
	checkReadEntries(t, b, []elf.Entry{entry(7, 1), entry(8, 2)}, api.OK)
}

// TestP905Behind: what stands behind the first Tag 0, and beside it, counts for nothing but its length.
func TestP905Behind(t *testing.T) {
	want := []elf.Entry{entry(7, 1), entry(9, 3)}
	for _, value := range wild() {
		for _, behind := range [][]byte{nil, longs(5, 5), longs(-1, -1), longs(0, 0), longs(math.MaxInt, 1, 0, 7, 1, 1), bytes.Repeat(longs(-1, -1), 100), bytes.Repeat(longs(1, 1), 100)} {
			b := append(longs(7, 1, 9, 3, 0, value), behind...)
			checkReadEntries(t, b, want, api.OK)
			checkReadEntries(t, b[32:], nil, api.OK)
			checkReadEntries(t, append(b, 0), nil, api.ErrElf)
			checkReadEntries(t, b[:len(b)-1], nil, api.ErrElf)
		}
	}
	// As many as may be ahead of it, and many behind it.
	b := append(bytes.Repeat(longs(3, 4), 64), longs(0, 0)...)
	checkReadEntries(t, append(b, bytes.Repeat(longs(3, 4), 64)...), slices.Repeat([]elf.Entry{entry(3, 4)}, 64), api.OK)
	checkReadEntries(t, append(longs(3, 4), append(b, bytes.Repeat(longs(3, -4), 64)...)...), nil, api.ErrSize)
}

func TestP906Tables(t *testing.T) {
	var relas []elf.Rela
	var entries []elf.Entry
	for k := range 4000 {
		relas = append(relas, rela(k<<27, k%256, (2000-k)<<50))
		if k < 64 {
			entries = append(entries, entry(1+k<<34, k<<33))
		}
	}
	for _, n := range []int{0, 1, 2, 3, 50, 64, 100, 3999, 4000} {
		b, e := elf.Relas(relas[:n])
		if e != api.OK || len(b) != 24*n {
			t.Fatal(len(b), e)
		}
		checkReadRelas(t, b, relas[:n], api.OK)
		m := min(n, 64)
		b, e = elf.Entries(entries[:m])
		if e != api.OK || len(b) != 16*m+16 {
			t.Fatal(len(b), e)
		}
		checkReadEntries(t, b, entries[:m], api.OK)
	}
}
