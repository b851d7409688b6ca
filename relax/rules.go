package relax

import (
	"gangway/api"
	"gangway/forms"
)

const (
	maxItems = 20000
	maxAlign = 4096
)

// labelsOf looks whether a list may be, error by error over all of it, and tells which item each label's Mark is.
func labelsOf(l []Item) (map[string]int, api.Errno) {
	if len(l) > maxItems {
		return nil, api.ErrSize
	}
	for _, i := range l {
		if !mayBe(i) {
			return nil, api.ErrArg
		}
	}
	for _, i := range l {
		if i.Kind == Code && forms.Check(i.Inst) != api.OK {
			return nil, api.ErrForm
		}
	}
	labels := map[string]int{}
	for k, i := range l {
		if i.Kind != Mark {
			continue
		}
		if _, twice := labels[i.Name]; twice {
			return nil, api.ErrLabel
		}
		labels[i.Name] = k
	}
	return labels, api.OK
}

// mayBe: has the item what its kind says, and nothing else? Whether a Code's Inst is an instruction is another error's matter.
func mayBe(i Item) bool {
	rest, right := i, true
	switch i.Kind {
	case Code:
		rest.Inst = api.Inst{}
	case Raw:
		rest.Data = nil
	case Mark:
		rest.Name, right = "", i.Name != ""
	case Align:
		rest.N, rest.Fill, right = 0, 0, i.N >= 1 && i.N <= maxAlign && i.N&(i.N-1) == 0
	case Space:
		rest.N, rest.Fill, right = 0, 0, i.N >= 0 && i.N <= api.MaxBytes
	default:
		return false
	}
	return right && isEmpty(rest)
}

// isEmpty: of all fields but the kind.
func isEmpty(i Item) bool {
	return i.Inst == (api.Inst{}) && len(i.Data) == 0 && i.Name == "" && i.N == 0 && i.Fill == 0
}
