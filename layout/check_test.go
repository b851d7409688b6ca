package layout_test

import (
	"slices"
	"testing"

	"gangway/api"
)

// TestP1902Resolve: what resolve.Check refuses is refused with its error; what names mean is not asked.
func TestP1902Resolve(t *testing.T) {
	bad := object(text(16, 4))
	bad.Symbols = []api.Symbol{{Name: "a", Section: ".text", Value: 9}}
	checkError(t, make([]api.File, 17), api.ErrSize)
	checkError(t, files(bad), api.ErrSymbol)
	checkError(t, files(object(), object(text(16, 4)), bad), api.ErrSymbol)
	checkError(t, one(text(3, 4)), api.ErrSymbol)
	checkError(t, one(text(16, 4), text(16, 4)), api.ErrSymbol)
	checkError(t, one(named(text(16, 4), long(256))), api.ErrSize)
	checkError(t, one(bss(8, -1)), api.ErrSymbol)
	checkError(t, one(bss(8, 1<<30+1)), api.ErrSymbol)
	strong := object(text(16, 4))
	strong.Symbols = []api.Symbol{{Name: "a", Section: ".text", Bind: api.Global}, {Name: "u", Bind: api.Global}, {Name: "v", Bind: api.Global, Type: api.Tls}}
	other := object(text(16, 4))
	other.Symbols = []api.Symbol{{Name: "a", Section: ".text", Bind: api.Global}, {Name: "v", Section: ".text", Bind: api.Global}}
	checkAt(t, files(strong, other, strong), []int{4096}, []int{4112}, []int{4128})
}

// TestP1902Mixed: what may be executed is neither written nor thread-local, if it is laid out.
func TestP1902Mixed(t *testing.T) {
	for _, kind := range []int{api.ProgBits, api.NoBits, api.InitArray, api.FiniArray} {
		for low := range 8 {
			for _, flags := range []int{low, low | api.TlsFlag} {
				s := section("s", kind, flags, 8, 8)
				isLaid, isExec := flags&api.Alloc != 0, flags&api.Exec != 0
				if isLaid && isExec && flags&(api.Write|api.TlsFlag) != 0 {
					checkError(t, one(s), api.ErrType)
					checkError(t, files(object(text(16, 4)), object(data(8, 1), s)), api.ErrType)
					continue
				}
				want := -1
				if isLaid {
					want = 4096
				}
				checkAt(t, one(s), []int{want})
			}
		}
	}
}

// TestP1902Unlike: sections of one name have one Type and the same Flags, laid out or not.
func TestP1902Unlike(t *testing.T) {
	var all []api.Section
	for _, kind := range []int{api.ProgBits, api.NoBits, api.InitArray, api.FiniArray} {
		for _, flags := range []int{0, 1, 2, 3, 4, 5, 6, 1024, 1026, 1027, 1028} {
			all = append(all, section("s", kind, flags, 8, 3))
		}
	}
	for _, a := range all {
		for _, b := range all {
			other := named(b, "S")
			if a.Type == b.Type && a.Flags == b.Flags {
				placed(t, files(object(a), object(b)))
			} else {
				checkError(t, files(object(a), object(b)), api.ErrType)
				checkError(t, files(object(a), object(), object(a), object(text(16, 4), b)), api.ErrType)
				checkError(t, files(object(b, other), object(other, a)), api.ErrType)
			}
			placed(t, files(object(a), object(other)))
			placed(t, files(object(a, other), object(other, a)))
		}
	}
	// Aligns and sizes may be as they like.
	placed(t, files(object(data(1, 5)), object(data(4096, 0)), object(data(8, 100))))
}

// TestP1902End: as far as MaxBytes times 16, and no byte farther.
func TestP1902End(t *testing.T) {
	const greatest = 1 << 24
	checkEnd(t, one(bss(8, greatest-4096)), greatest)
	checkError(t, one(bss(8, greatest-4095)), api.ErrSize)
	checkError(t, one(bss(8, 1<<30)), api.ErrSize)
	checkError(t, slices.Repeat(one(bss(4096, 1<<30)), 16), api.ErrSize)
	checkEnd(t, slices.Repeat(one(bss(4096, greatest/16-4096)), 16), greatest-15*4096)
	checkEnd(t, files(object(bss(8, greatest-4096-16)), object(bss(8, 9)), object(bss(1, 7))), greatest)
	checkError(t, files(object(bss(8, greatest-4096-16)), object(bss(8, 9)), object(bss(1, 8))), api.ErrSize)
	checkError(t, files(object(bss(8, greatest-4096-16)), object(bss(8, 9)), object(bss(8, 1))), api.ErrSize)
	// An align alone may go over it, and so may a page, if something stands there.
	checkEnd(t, files(object(bss(1, greatest-4096-1)), object(bss(2, 0))), greatest)
	checkError(t, files(object(bss(1, greatest-4096+1)), object(bss(2, 0))), api.ErrSize)
	checkError(t, one(rodata(1, 1), bss(1, greatest-8192+1)), api.ErrSize)
	checkEnd(t, one(rodata(1, 1), bss(1, greatest-8192)), greatest)
	readOnly := section(".zeros", api.NoBits, api.Alloc, 1, greatest-4096)
	checkEnd(t, one(readOnly), greatest)
	checkEnd(t, one(readOnly, data(8, 0)), greatest)
	checkEnd(t, one(readOnly, text(4096, 0), data(4096, 0)), greatest)
	checkError(t, one(readOnly, data(8, 1)), api.ErrSize)
	checkError(t, one(readOnly, text(1, 1)), api.ErrSize)
	checkError(t, one(readOnly, bss(1, 1)), api.ErrSize)
	readOnly.Size++
	checkError(t, one(readOnly), api.ErrSize)
	checkError(t, one(readOnly, text(16, 4), data(8, 8)), api.ErrSize)
	// What is not laid out counts for nothing.
	far := section(".far", api.NoBits, 0, 8, 1<<30)
	checkEnd(t, one(far, text(16, 4)), 4100)
}

// TestP1902InOrder: resolve's error, then ErrType, then ErrSize, wherever they stand.
func TestP1902InOrder(t *testing.T) {
	wrong, mixed, great := data(3, 4), named(text(16, 4), "mixed"), bss(8, 1<<30)
	mixed.Flags |= api.Write
	unlike := data(8, 4)
	unlike.Flags = api.Alloc
	for _, c := range []struct {
		l []api.File
		e api.Errno
	}{
		{files(object(mixed), object(great), object(wrong)), api.ErrSymbol},
		{files(object(great), object(mixed)), api.ErrType},
		{files(object(mixed), object(great)), api.ErrType},
		{files(object(great), object(data(8, 4)), object(unlike)), api.ErrType},
		{one(great, mixed), api.ErrType},
		{one(great), api.ErrSize},
		{slices.Repeat(one(mixed), 17), api.ErrSize},
		{slices.Repeat(one(mixed), 16), api.ErrType},
	} {
		checkError(t, c.l, c.e)
	}
}
