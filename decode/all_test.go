package decode_test

import (
	"bytes"
	"math"
	"slices"
	"strings"
	"testing"

	"gangway/api"
	"gangway/decode"
	"gangway/encode"
	"gangway/forms"
)

// some: instructions of many kinds, for lists of them.
func some() []api.Inst {
	none := api.Operand{}
	return []api.Inst{
		inst(api.Push, 8, none, reg(0)), inst(api.Ret, 0, none, none), inst(api.Mov, 8, reg(3), reg(0)), inst(api.Cqo, 0, none, none), inst(api.Add, 8, reg(4), imm(1000)),
		inst(api.Mov, 8, reg(1), imm(1<<40)), inst(api.Call, 8, target(-5), none), inst(api.Mov, 4, fs(-8), imm(7)), inst(api.Lea, 8, reg(7), rip(5)), {Op: api.Jcc, Size: 8, Cond: 5, To: target(-2), Short: true},
		inst(api.Mov, 1, indexed(13, 12, 4, 0), reg(6)), inst(api.Syscall, 0, none, none), inst(api.Nop, 0, none, none),
	}
}

// joined: the bytes of instructions, and where each begins.
func joined(t *testing.T, list []api.Inst) (b []byte, at []int) {
	for _, i := range list {
		at = append(at, len(b))
		b = append(b, bytesOf(t, i)...)
	}
	return b, at
}

func checkAll(t *testing.T, b []byte, list []api.Inst, at []int, e api.Errno) {
	t.Helper()
	gotList, gotAt, gotE := decode.All(b)
	if !slices.Equal(gotList, list) || !slices.Equal(gotAt, at) || gotE != e {
		t.Fatalf("All(% x): %v, %v, %d; want %v, %v, %d", b, gotList, gotAt, gotE, list, at, e)
	}
}

func TestP503All(t *testing.T) {
	checkAll(t, nil, nil, nil, api.OK)
	checkAll(t, []byte{}, nil, nil, api.OK)
	checkAll(t, []byte{80, 195}, some()[:2], []int{0, 1}, api.OK)
	list := some()
	for n := range len(list) + 1 {
		b, at := joined(t, list[:n])
		checkAll(t, b, list[:n], at, api.OK)
	}
}

// TestP503Errors: bytes whose last instruction is cut off, wherever; and the first wrong place counts, not a later one.
func TestP503Errors(t *testing.T) {
	b, at := joined(t, some())
	for n := range b {
		if k, whole := slices.BinarySearch(at, n); !whole {
			checkAll(t, b[:n], nil, nil, api.ErrEnd)
		} else {
			checkAll(t, b[:n], some()[:k], at[:k], api.OK)
			checkAll(t, append(b[:n:n], 6), nil, nil, api.ErrForm)
			checkAll(t, append(b[:n:n], 6, 0x48), nil, nil, api.ErrForm)
		}
	}
	for _, c := range []struct {
		digits string
		e      api.Errno
	}{{"06", api.ErrForm}, {"48", api.ErrEnd}, {"90 40 90", api.ErrForm}, {"90 48", api.ErrEnd}, {"06 48", api.ErrForm}, {"c3 64 90 48 81", api.ErrForm}, {"c3 48 81 c0 05 00 00", api.ErrEnd}, {"c3 48 81 c0 05 00 00 00", api.ErrForm}} {
		checkAll(t, raw(c.digits), nil, nil, c.e)
	}
}

func TestP504Sweep(t *testing.T) {
	for _, c := range []struct {
		digits string
		want   []int
	}{
		{"", nil}, {"06", nil}, {"48", nil}, {"90 90", []int{0, 1}}, {"48 89 c3", []int{0, 1, 2}}, {"c3 06 c3", []int{0, 2}},
		// movabs with a ret and a push within its number, and behind it one that is cut off.
		{"48 b8 c3 06 06 50 06 06 06 06 90 0f", []int{0, 1, 2, 5, 10}},
		{"64 48 8b 04 25 00 00 00 00", []int{0, 5, 6, 7}},
	} {
		if got := decode.Sweep(raw(c.digits)); !slices.Equal(got, c.want) {
			t.Errorf("Sweep(%s): %v; want %v", c.digits, got, c.want)
		}
	}
}

// TestP504EachPlace: just where One answers an instruction.
func TestP504EachPlace(t *testing.T) {
	b, _ := joined(t, some())
	for from := range b {
		var want []int
		for at := range b[from:] {
			if _, _, e := decode.One(b[from:], at); e == api.OK {
				want = append(want, at)
			}
		}
		if got := decode.Sweep(b[from:]); !slices.Equal(got, want) {
			t.Errorf("Sweep(% x): %v; want %v", b[from:], got, want)
		}
	}
}

func TestP505Show(t *testing.T) {
	for _, c := range []struct {
		digits string
		addr   uint64
		want   string
	}{
		{"", 5, ""},
		{"50 c3", 4096, "0000000000001000: 50 | pushq %rax\n0000000000001001: c3 | ret\n"},
		{"48 89 c3", 0xfedcba9876543210, "fedcba9876543210: 48 89 c3 | movq %rax, %rbx\n"},
		{"75 05 48 8b 80 08 00 00 00 90", math.MaxUint64 - 3, "fffffffffffffffc: 75 05 | jne short .+5\nfffffffffffffffe: 48 8b 80 08 00 00 00 | movq 8(%rax), %rax\n0000000000000005: 90 | nop\n"},
		{"90 90", math.MaxUint64, "ffffffffffffffff: 90 | nop\n0000000000000000: 90 | nop\n"},
	} {
		if s, e := decode.Show(raw(c.digits), c.addr); s != c.want || e != api.OK {
			t.Errorf("Show(%s, %x): %q, %d; want %q", c.digits, c.addr, s, e, c.want)
		}
	}
	for digits, want := range map[string]api.Errno{"06": api.ErrForm, "90 48": api.ErrEnd, "90 40 90": api.ErrForm, "48 81 c0 05 00 00": api.ErrEnd} {
		if s, e := decode.Show(raw(digits), 0); s != "" || e != want {
			t.Errorf("Show(%s): %q, %d; want %d", digits, s, e, want)
		}
	}
}

// TestP505EachLine: line by line what encode and forms tell.
func TestP505EachLine(t *testing.T) {
	list := some()
	b, at := joined(t, list)
	s, e := decode.Show(b, 0xabc)
	lines := strings.SplitAfter(s, "\n")
	if e != api.OK || len(lines) != len(list)+1 {
		t.Fatalf("%q, %d", s, e)
	}
	for k, i := range list {
		text, _ := forms.Text(i)
		want := encode.Text([]byte{0, 0, 0, 0, 0, 0, byte((0xabc + at[k]) >> 8), byte(0xabc + at[k])})
		want = strings.ReplaceAll(want, " ", "") + ": " + encode.Text(bytesOf(t, i)) + " | " + text + "\n"
		if lines[k] != want {
			t.Errorf("%q; want %q", lines[k], want)
		}
	}
}

// TestP507InOneWay: two lists, one behind the other, at each place at which one can be cut.
func TestP507InOneWay(t *testing.T) {
	list := some()
	for from := range list {
		for to := from; to <= len(list); to++ {
			first, firstAt := joined(t, list[from:to])
			second, secondAt := joined(t, list[to:])
			for k := range secondAt {
				secondAt[k] += len(first)
			}
			checkAll(t, append(bytes.Clone(first), second...), list[from:], append(firstAt, secondAt...), api.OK)
		}
	}
}
