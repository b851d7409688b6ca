package reloc

import (
	"gangway/api"
	"gangway/leb"
)

// prefix: what each name begins with.
const prefix = "R_X86_64_"

// kind: what there is to know of a type: one without a value has a name alone.
type kind struct {
	name  string
	size  int
	value func(Place) int
	fits  func(int) bool
}

// kinds: by their types, of which RIrelative is the greatest.
func kinds() [api.RIrelative + 1]kind {
	return [api.RIrelative + 1]kind{
		api.RNone:      {name: "NONE"},
		api.R64:        {"64", 8, Place.sum, always},
		api.RPc32:      {"PC32", 4, Place.near, signed},
		api.RPlt32:     {"PLT32", 4, Place.near, signed},
		api.RGlobDat:   {name: "GLOB_DAT"},
		api.RRelative:  {name: "RELATIVE"},
		api.RGotPcrel:  {"GOTPCREL", 4, Place.slot, signed},
		api.R32:        {"32", 4, Place.sum, unsigned},
		api.R32S:       {"32S", 4, Place.sum, signed},
		api.RTlsgd:     {name: "TLSGD"},
		api.RTlsld:     {name: "TLSLD"},
		api.RDtpoff32:  {"DTPOFF32", 4, Place.offset, signed},
		api.RGotTpoff:  {"GOTTPOFF", 4, Place.slot, signed},
		api.RTpoff32:   {"TPOFF32", 4, Place.offset, signed},
		api.RIrelative: {name: "IRELATIVE"},
	}
}

// kindOf: one without a name, if there is no such type.
func kindOf(t int) kind {
	all := kinds()
	if t < 0 || t >= len(all) {
		return kind{}
	}
	return all[t]
}

// worked: the kind of a type that has a value.
func worked(t int) (kind, api.Errno) {
	k := kindOf(t)
	if k.value == nil {
		return kind{}, api.ErrReloc
	}
	return k, api.OK
}

func always(int) bool { return true }

func signed(v int) bool { return leb.Fits(v, 32, true) }

func unsigned(v int) bool { return leb.Fits(v, 32, false) }
