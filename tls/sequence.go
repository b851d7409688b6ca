package tls

// hole: how many bytes one has; blank: what stands there.
const (
	hole  = 4
	blank = "\x00\x00\x00\x00"
)

// pointer: how many bytes the address has that stands at FS; maxAlign: the greatest alignment of a block.
const (
	pointer  = 8
	maxAlign = 4096
)

// base: movq %fs:0, %rax; lea: leaq offset(%rax), %rax, up to its hole; nops: three of them.
const (
	base = "\x64\x48\x8b\x04\x25\x00\x00\x00\x00"
	lea  = "\x48\x8d\x80"
	nops = "\x90\x90\x90"
)

// A REX of 8 bytes, its bits for a register of 8 and above in reg and in rm.
const (
	rexW = 0x48
	rexR = 4
	rexB = 1
)

func global(int) []byte {
	return []byte("\x66\x48\x8d\x3d" + blank + "\x66\x66\x48\xe8" + blank)
}

func local(int) []byte {
	return []byte("\x48\x8d\x3d" + blank + "\xe8" + blank)
}

func initial(reg int) []byte {
	return append([]byte{byte(rexW + reg>>3*rexR), 0x8b, byte(0x05 + reg&7<<3)}, blank...)
}

func exec(reg int) []byte {
	return append([]byte{byte(rexW + reg>>3*rexB), 0xc7, byte(0xc0 + reg&7)}, blank...)
}

// register: the one that Initial's bytes name; of other bytes any one.
func register(b []byte) int { return int(b[0]&rexR<<1 | b[2]>>3&7) }

func fromGlobal(piece []byte, offset string) { put(piece, base, lea, offset) }

func fromLocal(piece []byte, _ string) { put(piece, base, nops) }

func fromInitial(piece []byte, offset string) {
	sequence := exec(register(piece))
	put(piece, string(sequence[:len(sequence)-hole]), offset)
}

func fromExec(piece []byte, offset string) { put(piece, offset) }

// put lays one part behind the other.
func put(piece []byte, parts ...string) {
	for _, part := range parts {
		piece = piece[copy(piece, part):]
	}
}
