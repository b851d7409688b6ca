package resolve

import (
	"slices"
	"strings"

	"gangway/api"
)

// table: what is known by names.
type table[V any] struct {
	values map[string]V
}

func newTable[V any]() table[V] { return table[V]{map[string]V{}} }

// of: a zero value, if nothing is known.
func (t table[V]) of(name string) V { return t.values[name] }

func (t table[V]) put(name string, v V) { t.values[name] = v }

// row: one of a table.
type row[V any] struct {
	name  string
	value V
}

// rising: all rows, by the bytes of their names.
func (t table[V]) rising() []row[V] {
	var rows []row[V]
	for name, value := range t.values {
		rows = append(rows, row[V]{name, value})
	}
	slices.SortFunc(rows, func(a, b row[V]) int { return strings.Compare(a.name, b.name) })
	return rows
}

// addFaults: one for each row of which that holds.
func addFaults[V any](l []Fault, e api.Errno, rows []row[V], holds func(V) bool) []Fault {
	for _, r := range rows {
		if holds(r.value) {
			l = append(l, Fault{e, r.name})
		}
	}
	return l
}
