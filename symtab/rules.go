package symtab

import (
	"slices"

	"gangway/api"
)

// greatest: of a symbol's Value and Size.
const greatest = 1 << 62

// Numbers of sections that are none: of "" and of "*".
const (
	undefined = 0
	absolute  = 65521
)

func areTooMuch(l []api.Symbol, sections []string) bool {
	if len(l) > api.MaxSymbols || len(sections) > api.MaxSections {
		return true
	}
	return slices.ContainsFunc(namesOf(l), isTooLong) || slices.ContainsFunc(sections, isTooLong)
}

func namesOf(l []api.Symbol) []string {
	var names []string
	for _, s := range l {
		names = append(names, s.Name)
	}
	return names
}

// numbersOf: by which number an entry tells a symbol's section; false, if the sections may not have these names. One that is empty, "*" or there before would have two numbers.
func numbersOf(sections []string) (map[string]int, bool) {
	numbers := map[string]int{"": undefined, "*": absolute}
	for k, name := range sections {
		if _, taken := numbers[name]; taken || hasZero(name) {
			return nil, false
		}
		numbers[name] = k + 1
	}
	return numbers, true
}

// mayBe: for sections that have these numbers.
func mayBe(l []api.Symbol, numbers map[string]int) bool {
	for _, s := range l {
		if _, there := numbers[s.Section]; !there || !isRight(s) {
			return false
		}
	}
	return areUnlike(l)
}

// isRight: as far as one symbol alone tells.
func isRight(s api.Symbol) bool {
	switch {
	case hasZero(s.Name), !isBinding(s.Bind), !isType(s.Type), !isExtent(s.Value), !isExtent(s.Size):
		return false
	case s.Section == "" && (s.Bind == api.Local || s.Value != 0 || s.Size != 0):
		return false
	}
	return s.Name != "" || s.Bind == api.Local
}

func isBinding(n int) bool { return n == api.Local || n == api.Global || n == api.Weak }

func isType(n int) bool {
	switch n {
	case api.NoType, api.Object, api.Func, api.Tls, api.Ifunc:
		return true
	}
	return false
}

func isExtent(n int) bool { return n >= 0 && n <= greatest }

// owner: what one symbol alone may have. A Local one and another one do not take a name from each other.
type owner struct {
	name  string
	local bool
}

// areUnlike: no two have one name, but empty ones.
func areUnlike(l []api.Symbol) bool {
	seen := map[owner]struct{}{}
	for _, s := range l {
		o := owner{s.Name, s.Bind == api.Local}
		if _, taken := seen[o]; taken && s.Name != "" {
			return false
		}
		seen[o] = struct{}{}
	}
	return true
}
