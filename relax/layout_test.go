package relax_test

import (
	"fmt"
	"testing"

	"gangway/api"
	"gangway/relax"
)

func TestP1602Examples(t *testing.T) {
	checkLong(t, items("jmp a; nop; a:"), 3, 1)
	checkLong(t, items("jmp a; .zero 128; a:"), 133, 2, 0)
	checkLong(t, items("jmp a; jmp b; .zero 124; a: .zero 4; b:"), 138, 3, 0, 1)
}

func TestP1602Nothing(t *testing.T) {
	checkLayout(t, nil, relax.Laid{Rounds: 1}, api.OK)
	checkLayout(t, items("a:"), relax.Laid{At: []int{0}, Long: []bool{false}, Rounds: 1}, api.OK)
}

// TestP1602Places: of all kinds.
func TestP1602Places(t *testing.T) {
	l := items(`a: nop; .ascii "xyz"; b: .balign 8; .balign 8; c: .zero 5; d: movq $-1, %rax; .balign 1; .balign 4; .zero 0; jmp a; je b; .ascii ""; call c; jmp x; e:`)
	want := relax.Laid{
		At:   []int{0, 0, 1, 4, 4, 8, 8, 8, 13, 13, 20, 20, 20, 20, 22, 24, 24, 29, 34},
		Long: make([]bool, 19), Size: 34, Rounds: 1,
	}
	checkLayout(t, l, want, api.OK)
	// The same behind a jump that is long: it becomes so in the first round, and moves all places.
	l = append(items("jmp e; .zero 122"), l...)
	want = relax.Laid{
		At:   []int{0, 5, 127, 127, 128, 131, 131, 136, 136, 136, 141, 141, 148, 148, 148, 148, 150, 152, 152, 157, 162},
		Long: make([]bool, 21), Size: 162, Rounds: 2,
	}
	want.Long[0] = true
	checkLayout(t, l, want, api.OK)
}

// TestP1602Reach: the first and the last way that a short jump goes, and one more.
func TestP1602Reach(t *testing.T) {
	for _, c := range []struct {
		name string
		size int // of a long one
	}{{"jmp", 5}, {"jo", 6}, {"jne", 6}, {"jg", 6}} {
		checkLong(t, items(c.name+" a; .zero 127; a:"), 129, 1)
		checkLong(t, items(c.name+" a; .zero 128; a:"), 128+c.size, 2, 0)
		checkLong(t, items("a: .zero 126;"+c.name+" a"), 128, 1)
		checkLong(t, items("a: .zero 127;"+c.name+" a"), 127+c.size, 2, 2)
		checkLong(t, items("a: "+c.name+" a"), 2, 1)
		checkLong(t, items(c.name+" a; a:"), 2, 1)
	}
}

// TestP1602Free: which jumps are free: others have their size, and never become long.
func TestP1602Free(t *testing.T) {
	for _, c := range []struct {
		text string
		size int
	}{
		{"jmp x", 5}, {"je x", 6}, {"call a", 5}, {"call a@plt", 5}, {"jmp a@plt", 5}, {"je a@plt", 6},
		{"jmp *a(%rip)", 6}, {"leaq a(%rip), %rax", 7}, {"jmp .+5", 5}, {"je .-9", 6}, {"jmp short .+5", 2},
		{"jmp *%rax", 2}, {"jmp short a", 2}, {"jne short a", 2},
	} {
		checkLong(t, items(c.text+"; a:"), c.size, 1)
		// Far away they are as they were.
		l := items(c.text + "; .zero 1000; a:")
		x, e := relax.Layout(l)
		if e != api.OK || x.Size != c.size+1000 || x.Rounds != 1 || x.Long[0] {
			t.Error(c, x, e)
		}
	}
	// One whose Name only looks like the label's.
	checkLong(t, items("jmp A; jmp aa; jmp .a; a:"), 15, 1)
}

// TestP1602AtOnce: all that do not reach become long in one round, whether or not another one that grows would have taken them out of reach.
func TestP1602AtOnce(t *testing.T) {
	checkLong(t, items("jmp a; jmp a; jmp a; .zero 200; a:"), 215, 2, 0, 1, 2)
	checkLong(t, items("jmp a; je b; .zero 126; a: .zero 9; b:"), 2+3+6+126+9, 2, 0, 1)
	// The first round takes the second jump, the second one the first.
	checkLong(t, items("jmp a; jmp b; .zero 125; a: .zero 3; b:"), 10+128, 3, 0, 1)
	// Backwards, with one that grows and takes none with it, and one that takes the one behind it.
	checkLong(t, items("a: b: .zero 3; c: .zero 121; jmp a; jmp c; jmp a"), 124+2+2+5, 2, 7)
	checkLong(t, items("b: .zero 3; c: .zero 124; jmp b; jmp c"), 127+5+5, 3, 4, 5)
}

// TestP1602Rounds: round by round one more.
func TestP1602Rounds(t *testing.T) {
	for n := range 40 {
		l := chain(n)
		x, e := relax.Layout(l)
		if e != api.OK || x.Rounds != n+1 {
			t.Error(n, x.Rounds, e)
		}
	}
}

// TestP1602Aligned: an alignment may take away what a jump grew, and may bring a label nearer.
func TestP1602Aligned(t *testing.T) {
	checkLong(t, items("jmp a; .balign 16, 204; a:"), 16, 1)
	checkLong(t, items("jmp a; .zero 120; .balign 128; a:"), 128, 1)
	checkLong(t, items("jmp a; .zero 127; .balign 128; a:"), 256, 2, 0)
	// The second jump becomes long, and the alignment has three bytes less: the first one still reaches.
	checkLong(t, items("jmp a; jmp b; .zero 100; .balign 64; a: .zero 128; b:"), 256, 2, 1)
	// The first one grows by the second one's growth, though the alignment is behind its label.
	checkLong(t, items("jmp a; jmp b; .zero 125; a: .balign 64; .zero 128; b:"), 320, 3, 0, 1)
	// A long jump stays so, though it would reach in the end: in the first round a is 133 bytes behind it, in the last one 127.
	l := items("jmp b; .zero 3; jmp a; .zero 122; .balign 8; .zero 4; a: .zero 5; b:")
	checkLong(t, l, 145, 2, 0, 2)
	if x, e := relax.Layout(l); e != api.OK || x.At[6]-x.At[3] != 127 {
		t.Error(x, e)
	}
}

// TestP1602Size: MaxBytes may be, one more may not, in whichever round it comes up.
func TestP1602Size(t *testing.T) {
	checkLong(t, items(".zero 1048576"), api.MaxBytes, 1)
	checkUnlaid(t, items(".zero 1048576; nop"), api.ErrSize)
	checkUnlaid(t, items(".zero 1048576; .zero 1"), api.ErrSize)
	checkUnlaid(t, items(".zero 1; .zero 1048576"), api.ErrSize)
	checkLong(t, append(items(".zero 1048574"), raw(1, 2)), api.MaxBytes, 1)
	checkUnlaid(t, append(items(".zero 1048574"), raw(1, 2, 3)), api.ErrSize)
	checkUnlaid(t, append(items(".zero 1048575"), code(inst("call x"))), api.ErrSize)
	checkLong(t, items(".zero 1048571; call x"), api.MaxBytes, 1)
	checkUnlaid(t, items(".zero 1048572; call x"), api.ErrSize)
	checkLong(t, items(".zero 1044481; .balign 4096"), api.MaxBytes, 1)
	checkLong(t, items(".zero 1048575; .balign 4096; a: b:"), api.MaxBytes, 1)
	checkUnlaid(t, items(".zero 1048575; .balign 4096; nop"), api.ErrSize)
	checkUnlaid(t, []relax.Item{raw(make([]byte, api.MaxBytes+1)...)}, api.ErrSize)
	// Short jumps have room; the long ones have not.
	checkLong(t, items("jmp a; .zero 128; a: .zero 1048443"), api.MaxBytes, 2, 0)
	checkUnlaid(t, items("jmp a; .zero 128; a: .zero 1048444"), api.ErrSize)
	checkUnlaid(t, items("jmp a; .zero 128; a: .zero 1048446"), api.ErrSize)
	checkUnlaid(t, items("jmp a; .zero 128; a: .zero 1048447"), api.ErrSize)
	three := "jmp a; jmp b; .zero 124; a: .zero 4; b: .zero %d"
	checkLong(t, items(fmt.Sprintf(three, api.MaxBytes-138)), api.MaxBytes, 3, 0, 1)
	for _, n := range []int{137, 136, 135, 134, 133, 132, 131} {
		checkUnlaid(t, items(fmt.Sprintf(three, api.MaxBytes-n)), api.ErrSize)
	}
	// It comes ahead of what Bytes finds in short jumps.
	checkUnlaid(t, items("jmp short x; .zero 1048575"), api.ErrSize)
}

func TestP1602AgainstModel(t *testing.T) {
	random := seeded(2)
	many, most := 0, 0
	for range 1500 {
		l := anyTight(random, 24, true)
		x, wantE := modelLayout(l)
		checkLayout(t, l, x, wantE)
		if x.Rounds > 2 {
			many++
		}
		most = max(most, x.Rounds)
	}
	if many < 300 || most < 5 {
		t.Error("the lists are too plain:", many, most)
	}
}
