package layout_test

import (
	"testing"

	"gangway/api"
	"gangway/layout"
)

// TestP1904Numbers: the constants are those of the chapter.
func TestP1904Numbers(t *testing.T) {
	got := [...]int{layout.Load, layout.Dynamic, layout.Tls, layout.EhFrame, layout.X, layout.W, layout.R}
	if got != [...]int{1, 2, 7, 1685382480, 1, 2, 4} {
		t.Error(got)
	}
}

// TestP1904Loads: one for each of three kinds that is there, in their order.
func TestP1904Loads(t *testing.T) {
	checkSegments(t, one(rodata(8, 5)), load(4, 4096, 5, 5))
	checkSegments(t, one(text(8, 5)), load(5, 4096, 5, 5))
	checkSegments(t, one(data(8, 5)), load(6, 4096, 5, 5))
	checkSegments(t, one(bss(8, 5)), load(6, 4096, 0, 5))
	checkSegments(t, one(data(8, 1), text(8, 2), rodata(8, 3)), load(4, 4096, 3, 3), load(5, 8192, 2, 2), load(6, 12288, 1, 1))
	checkSegments(t, one(data(8, 1), rodata(8, 3)), load(4, 4096, 3, 3), load(6, 8192, 1, 1))
	checkSegments(t, one(section("i", api.InitArray, 3, 8, 8), section("f", api.FiniArray, 3, 8, 16), note(7)), load(6, 4096, 24, 24))
	// Of empty sections it is there, too.
	checkSegments(t, one(rodata(8, 0), text(8, 0), bss(8, 0)), load(4, 4096, 0, 0), load(5, 4096, 0, 0), load(6, 4096, 0, 0))
	// Several Outputs, with what lies between.
	checkSegments(t, one(rodata(8, 3), named(rodata(64, 9), "a"), named(rodata(1, 2), "b")), load(4, 4096, 64+11, 64+11))
	checkSegments(t, one(rodata(8, 5000), text(16, 4096), data(8, 9000)), load(4, 4096, 5000, 5000), load(5, 12288, 4096, 4096), load(6, 16384, 9000, 9000))
}

// TestP1904NoBits: Size reaches over those ahead of the last one that has bytes, Memory over all.
func TestP1904NoBits(t *testing.T) {
	zeros := section("z", api.NoBits, 2, 8, 20)
	checkSegments(t, one(zeros), load(4, 4096, 0, 20))
	checkSegments(t, one(zeros, rodata(8, 3)), load(4, 4096, 27, 27))
	checkSegments(t, one(rodata(8, 3), zeros), load(4, 4096, 3, 28))
	checkSegments(t, one(rodata(8, 3), zeros, named(rodata(8, 3), "a"), named(zeros, "y")), load(4, 4096, 35, 60))
	checkSegments(t, one(zeros, rodata(8, 0)), load(4, 4096, 24, 24))
	room := section("xz", api.NoBits, 6, 8, 20)
	checkSegments(t, one(room, text(1, 3)), load(5, 4096, 23, 23))
	checkSegments(t, one(text(1, 3), room), load(5, 4096, 3, 28))
	checkSegments(t, one(tbss(8, 100), data(8, 3), bss(8, 5)), load(6, 4096, 107, 117), tls(4096, 0, 100, 8))
	checkSegments(t, one(tbss(8, 100), bss(8, 5)), load(6, 4096, 0, 109), tls(4096, 0, 100, 8))
	checkSegments(t, one(data(8, 3), bss(8, 10000)), load(6, 4096, 3, 10008))
}

// TestP1904Tls: around the groups 3 and 4.
func TestP1904Tls(t *testing.T) {
	checkSegments(t, one(tdata(8, 5)), load(6, 4096, 5, 5), tls(4096, 5, 5, 8))
	checkSegments(t, one(tbss(16, 5)), load(6, 4096, 0, 5), tls(4096, 0, 5, 16))
	checkSegments(t, one(tbss(16, 5), tdata(8, 3)), load(6, 4096, 3, 21), tls(4096, 3, 21, 16))
	checkSegments(t, one(tbss(1, 5), tdata(64, 3), data(8, 8), rodata(8, 8)), load(4, 4096, 8, 8), load(6, 8192, 16, 16), tls(8192, 3, 8, 64))
	checkSegments(t, one(tdata(1, 0)), load(6, 4096, 0, 0), tls(4096, 0, 0, 1))
	two := named(tdata(32, 2), ".tdata2")
	checkSegments(t, one(tdata(8, 5), data(1, 1), tbss(4, 3), two, named(tbss(8, 2), "u")), load(6, 4096, 43, 43), tls(4096, 34, 42, 32))
	// Without Write they are thread-local all the same.
	readOnly := section("t", api.ProgBits, 1026, 4, 9)
	checkSegments(t, one(readOnly, text(1, 1)), load(5, 4096, 1, 1), load(6, 8192, 9, 9), tls(8192, 9, 9, 4))
	// What is not laid out is none.
	checkSegments(t, one(section("t", api.ProgBits, 1025, 4, 9)))
}

// TestP1905Thread: where the block begins, and where FS points.
func TestP1905Thread(t *testing.T) {
	checkThread(t, one(text(16, 1), data(8, 1)), 0, 0, 0, 0)
	checkThread(t, one(section("t", api.ProgBits, 1025, 4, 9), text(1, 1)), 0, 0, 0, 0)
	checkThread(t, one(tdata(8, 8), tbss(4, 4)), 4096, 12, 8, 4112)
	checkThread(t, one(tdata(8, 8)), 4096, 8, 8, 4104)
	checkThread(t, one(tdata(8, 9)), 4096, 9, 8, 4112)
	checkThread(t, one(tdata(1, 9)), 4096, 9, 1, 4105)
	checkThread(t, one(tbss(4096, 1)), 4096, 1, 4096, 8192)
	checkThread(t, one(text(1, 1), tbss(64, 0)), 8192, 0, 64, 8192)
	checkThread(t, one(rodata(1, 1), text(1, 1), tdata(2, 5), tbss(64, 1), data(8, 100)), 12288, 65, 64, 12288+128)
	for size := range 40 {
		for align := 1; align <= 32; align *= 2 {
			checkThread(t, one(tdata(align, size)), 4096, size, align, 4096+nextMultiple(size, align))
		}
	}
}

// TestP1905Offsets: each thread-local place lies below Tp, no farther than the block and one align.
func TestP1905Offsets(t *testing.T) {
	random := seeded(2)
	seen := 0
	for range 800 {
		l := files(anyObject(random, 0), anyObject(random, 0), anyObject(random, 0))
		m := placed(t, l)
		for i, f := range l {
			for k, s := range f.Sections {
				if s.Flags&1026 != 1026 || s.Size == 0 {
					continue
				}
				seen++
				low, high := m.At[i][k]-m.Tp, m.At[i][k]+s.Size-m.Tp
				if low >= 0 || high > 0 || low < -m.TlsSize-m.TlsAlign || m.Tp%m.TlsAlign != 0 || low%s.Align != 0 {
					t.Fatalf("%s: %s, %d to %d", short(l), short(m), low, high)
				}
			}
		}
	}
	if seen < 500 {
		t.Error(seen)
	}
}
