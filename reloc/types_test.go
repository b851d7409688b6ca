package reloc_test

import (
	"strings"
	"testing"

	"gangway/api"
	"gangway/reloc"
)

func TestP2001Size(t *testing.T) {
	for _, kind := range worked() {
		want := 4
		if kind == api.R64 {
			want = 8
		}
		checkSize(t, kind, want, api.OK)
	}
}

// TestP2001None: those that have a name alone have no bytes here, as all that are no type.
func TestP2001None(t *testing.T) {
	for _, kind := range append(named(), strange()...) {
		checkSize(t, kind, 0, api.ErrReloc)
	}
}

func TestP2001Name(t *testing.T) {
	for kind, want := range map[int]string{
		api.R64: "64", api.RPc32: "PC32", api.RPlt32: "PLT32", api.R32: "32", api.R32S: "32S", api.RGotPcrel: "GOTPCREL", api.RGotTpoff: "GOTTPOFF", api.RTpoff32: "TPOFF32", api.RDtpoff32: "DTPOFF32",
		api.RNone: "NONE", api.RGlobDat: "GLOB_DAT", api.RRelative: "RELATIVE", api.RTlsgd: "TLSGD", api.RTlsld: "TLSLD", api.RIrelative: "IRELATIVE",
	} {
		checkName(t, kind, "R_X86_64_"+want)
	}
	checkName(t, api.RIrelative, "R_X86_64_IRELATIVE")
}

func TestP2001NoName(t *testing.T) {
	for _, kind := range strange() {
		checkName(t, kind, "")
	}
	for kind := -100; kind < 1000; kind++ {
		checkName(t, kind, modelName(kind))
	}
}

// TestP2001NamesApart: no two types have one name.
func TestP2001NamesApart(t *testing.T) {
	all := " "
	for _, kind := range append(worked(), named()...) {
		s := reloc.Name(kind)
		if strings.Contains(all, " "+s+" ") {
			t.Error(kind, s)
		}
		all += s + " "
	}
}

func TestP2004Slot(t *testing.T) {
	for _, kind := range append(append(worked(), named()...), strange()...) {
		checkSlot(t, kind, kind == api.RGotPcrel, kind == api.RGotTpoff, kind == api.R64)
	}
	checkSlot(t, api.RGotPcrel, true, false, false)
	checkSlot(t, api.RGotTpoff, false, true, false)
	checkSlot(t, api.R64, false, false, true)
	checkSlot(t, api.RRelative, false, false, false)
}
