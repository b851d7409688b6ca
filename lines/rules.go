package lines

import (
	"strings"

	"gangway/api"
)

const (
	maxFiles  = 255
	maxSeqs   = 64
	maxStart  = 1 << 62
	maxLine   = 1<<31 - 1
	maxColumn = 1<<16 - 1
)

func isWithin(n, low, high int) bool { return low <= n && n <= high }

func areFiles(l []string) bool {
	if len(l) > maxFiles {
		return false
	}
	for _, name := range l {
		if !isWithin(len(name), 1, api.MaxName) || strings.IndexByte(name, 0) >= 0 {
			return false
		}
	}
	return true
}

func areSeqs(l []Seq, files int) bool {
	if len(l) > maxSeqs {
		return false
	}
	for _, s := range l {
		if !isWithin(s.Start, 0, maxStart) || !isWithin(s.Size, 0, api.MaxBytes) || !areRows(s.Rows, s.Size, files) {
			return false
		}
	}
	return true
}

func areRows(l []Row, size, files int) bool {
	if !isWithin(len(l), 1, api.MaxRows) {
		return false
	}
	least := 0
	for _, r := range l {
		if !isWithin(r.At, least, size) || !isWithin(r.File, 1, files) || !isWithin(r.Line, 0, maxLine) || !isWithin(r.Column, 0, maxColumn) {
			return false
		}
		least = r.At
	}
	return true
}

// rowOf is the row that governs an address. The sequence is taken as it stands: its rows may be in any order.
func (s Seq) rowOf(addr int) (Row, bool) {
	// Without a sign the distance is right, however far apart they are.
	if s.Start > addr || s.Size <= 0 || uint64(addr)-uint64(s.Start) >= uint64(s.Size) {
		return Row{}, false
	}
	for k := len(s.Rows) - 1; k >= 0; k-- {
		if s.Rows[k].At <= addr-s.Start {
			return s.Rows[k], true
		}
	}
	return Row{}, false
}

func (p Program) fileOf(r Row) string {
	if !isWithin(r.File, 1, len(p.Files)) {
		return ""
	}
	return p.Files[r.File-1]
}
