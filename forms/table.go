package forms

import "gangway/api"

// What becomes of To, where it is a register: it is read and written, written alone, or read alone.
const (
	changed = iota
	filled
	read
)

// Sums of sizes.
const (
	one       = 1
	eight     = 8
	fourEight = 4 + 8
	every     = 1 + 4 + 8
)

// Registers as bits.
const (
	rax = 1 << api.Rax
	rcx = 1 << api.Rcx
	rdx = 1 << api.Rdx
	rsp = 1 << api.Rsp
	rbp = 1 << api.Rbp
	rsi = 1 << api.Rsi
	rdi = 1 << api.Rdi
	r11 = 1 << 11
)

// row: what an op may have: its sizes as their sum, conditions, To and From; what its name is made of; which registers it reads and writes beside its operands.
type row struct {
	stem        string
	sizes       int
	lettered    bool
	conditional bool
	short       bool
	takes       func(size int, to, from api.Operand) bool
	to          int
	uses, sets  int
}

func table() [api.LastOp + 1]row {
	return [api.LastOp + 1]row{
		api.Mov:     {stem: "mov", sizes: every, lettered: true, takes: moved, to: filled},
		api.Lea:     {stem: "lea", sizes: fourEight, lettered: true, takes: located, to: filled},
		api.Add:     {stem: "add", sizes: every, lettered: true, takes: combined},
		api.Or:      {stem: "or", sizes: every, lettered: true, takes: combined},
		api.Adc:     {stem: "adc", sizes: every, lettered: true, takes: combined},
		api.Sbb:     {stem: "sbb", sizes: every, lettered: true, takes: combined},
		api.And:     {stem: "and", sizes: every, lettered: true, takes: combined},
		api.Sub:     {stem: "sub", sizes: every, lettered: true, takes: combined},
		api.Xor:     {stem: "xor", sizes: every, lettered: true, takes: combined},
		api.Cmp:     {stem: "cmp", sizes: every, lettered: true, takes: combined, to: read},
		api.Test:    {stem: "test", sizes: every, lettered: true, takes: tested, to: read},
		api.Imul:    {stem: "imul", sizes: fourEight, lettered: true, takes: loaded},
		api.Neg:     {stem: "neg", sizes: every, lettered: true, takes: single},
		api.Not:     {stem: "not", sizes: every, lettered: true, takes: single},
		api.Inc:     {stem: "inc", sizes: every, lettered: true, takes: single},
		api.Dec:     {stem: "dec", sizes: every, lettered: true, takes: single},
		api.Shl:     {stem: "shl", sizes: every, lettered: true, takes: shifted},
		api.Shr:     {stem: "shr", sizes: every, lettered: true, takes: shifted},
		api.Sar:     {stem: "sar", sizes: every, lettered: true, takes: shifted},
		api.Push:    {stem: "push", sizes: eight, lettered: true, takes: pushed, uses: rsp, sets: rsp},
		api.Pop:     {stem: "pop", sizes: eight, lettered: true, takes: single, to: filled, uses: rsp, sets: rsp},
		api.Call:    {stem: "call", sizes: eight, takes: called, to: read, uses: rsp, sets: rsp},
		api.Jmp:     {stem: "jmp", sizes: eight, short: true, takes: called, to: read},
		api.Jcc:     {stem: "j", sizes: eight, conditional: true, short: true, takes: aimed},
		api.Ret:     {stem: "ret", takes: bare, uses: rsp, sets: rsp},
		api.Leave:   {stem: "leave", takes: bare, uses: rbp, sets: rsp | rbp},
		api.Setcc:   {stem: "set", sizes: one, conditional: true, takes: single},
		api.Cmov:    {stem: "cmov", sizes: fourEight, lettered: true, conditional: true, takes: loaded},
		api.Movzx:   {stem: "movzb", sizes: fourEight, lettered: true, takes: loaded, to: filled},
		api.Movsx:   {stem: "movsb", sizes: fourEight, lettered: true, takes: loaded, to: filled},
		api.Xchg:    {stem: "xchg", sizes: fourEight, lettered: true, takes: stored},
		api.Cqo:     {stem: "cqto", takes: bare, uses: rax, sets: rdx},
		api.Nop:     {stem: "nop", takes: bare},
		api.Ud2:     {stem: "ud2", takes: bare},
		api.Syscall: {stem: "syscall", takes: bare, uses: rax | rdi | rsi | rdx, sets: rax | rcx | r11},
	}
}

// rowOf: of a number that is no op a row that has nothing.
func rowOf(op int) row {
	if op < 0 || op > api.LastOp {
		return row{}
	}
	return table()[op]
}

// has: whether the op has that size and that condition; without conditions it has 0 alone.
func (r row) has(size, cond int) bool {
	if r.stem == "" || cond < 0 || cond >= len(conditions) || cond > 0 && !r.conditional {
		return false
	}
	if size == 0 {
		return r.sizes == 0
	}
	return placeOf(size) >= 0 && r.sizes&size != 0
}

// reaches: a jump by a byte goes to a Target, and its number fits into that byte.
func (r row) reaches(i api.Inst) bool {
	return !i.Short || r.short && i.To.Kind == api.Target && within(i.To.N, -1<<7, 1<<7-1)
}
