package reloc

// load, lea: opcodes of movq name@gotpcrel(%rip), %reg and of what it becomes; both have a REX ahead and a ModRM behind.
const (
	load = 0x8b
	lea  = 0x8d
)

// ahead: how many bytes of such an instruction stand ahead of its hole; hole: how many the hole has.
const (
	ahead = 3
	hole  = 4
)

// Of a REX: rexW with the bit R, which may be as it likes; of a ModRM: all bits but those of reg, and what they are of (%rip).
const (
	rexW   = 0x48
	rexR   = 4
	notReg = 0xc7
	rip    = 5
)

// isLoad: whether these bytes, ahead of a hole, read 8 bytes from it to a register.
func isLoad(b []byte) bool {
	return b[0]&^rexR == rexW && b[1] == load && b[2]&notReg == rip
}
