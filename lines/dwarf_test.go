package lines_test

import (
	"debug/dwarf"
	"io"
	"testing"
)

// debugData is what debug/dwarf reads, of a unit: about it nothing is told but where its lines are.
func debugData(t *testing.T, unit []byte) *dwarf.LineReader {
	t.Helper()
	abbrev := []byte{1, 0x11, 0, 0x10, 0x17, 0x1b, 0x08, 0, 0, 0}
	info := []byte{5, 0, 1, 8, 0, 0, 0, 0, 1, 0, 0, 0, 0, '/', 0}
	d, err := dwarf.New(abbrev, nil, nil, join(number(len(info), 4), info), unit, nil, nil, nil)
	if err != nil {
		t.Fatal(err)
	}
	entry, err := d.Reader().Next()
	if err != nil {
		t.Fatal(err)
	}
	r, err := d.LineReader(entry)
	if err != nil || r == nil {
		t.Fatal(r, err)
	}
	return r
}

// TestP1502AsDebugDwarfReads: another reader of DWARF 5 tells the same rows. (It counts files from 0 on, and is not asked for them.)
func TestP1502AsDebugDwarfReads(t *testing.T) {
	random := seeded(12)
	for range 3000 {
		p := anyProgram(random)
		b, _ := written(t, p)
		r := debugData(t, b)
		next := func() (x dwarf.LineEntry) {
			if err := r.Next(&x); err != nil {
				t.Fatal(p, err)
			}
			return x
		}
		for _, s := range p.Seqs {
			for _, want := range s.Rows {
				x := next()
				if got := row(int(x.Address)-s.Start, want.File, x.Line, x.Column); got != want || x.EndSequence {
					t.Fatal(p, got, want)
				}
			}
			if x := next(); int(x.Address) != s.Start+s.Size || !x.EndSequence {
				t.Fatal(p, x)
			}
		}
		var x dwarf.LineEntry
		if err := r.Next(&x); err != io.EOF {
			t.Fatal(p, err)
		}
		if files := r.Files(); len(p.Files) > 0 && files[0].Name != p.Files[0] {
			t.Fatal(files[0], p.Files)
		}
	}
}
