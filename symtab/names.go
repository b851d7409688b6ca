package symtab

import (
	"strings"

	"gangway/api"
)

func hasZero(name string) bool { return strings.IndexByte(name, 0) >= 0 }

func isTooLong(name string) bool { return len(name) > api.MaxName }

// table: of names with a byte 0 behind each one, and where they begin in it. The byte 0 that it begins with is the end of the empty name.
type table struct {
	b  []byte
	at map[string]int
}

func newTable() *table {
	return &table{b: []byte{0}, at: map[string]int{"": 0}}
}

// place: where a name begins; one that is not there yet is put behind the others.
func (t *table) place(name string) int {
	at, there := t.at[name]
	if !there {
		at = len(t.b)
		t.at[name] = at
		t.b = append(append(t.b, name...), 0)
	}
	return at
}
