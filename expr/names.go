package expr

import "slices"

// fewNames: so many are looked for one by one.
const fewNames = 8

// names: what they stand for in one expression. Of more than a few the places of all Defs are noted once: else many names and many Defs would take their product.
type names struct {
	known  []Def
	asked  int
	places map[string]int
}

func (n *names) value(name string) Value {
	at := n.place(name)
	if at < 0 {
		return Value{Plus: name}
	}
	return reduced(n.known[at].V)
}

// place: of the first Def of a name; -1 if there is none.
func (n *names) place(name string) int {
	n.asked++
	if n.asked <= fewNames {
		return slices.IndexFunc(n.known, func(d Def) bool { return d.Name == name })
	}
	if n.places == nil {
		n.places = firstPlaces(n.known)
	}
	at, ok := n.places[name]
	if !ok {
		return -1
	}
	return at
}

func firstPlaces(known []Def) map[string]int {
	places := make(map[string]int, len(known))
	for at, d := range slices.Backward(known) {
		places[d.Name] = at
	}
	return places
}
