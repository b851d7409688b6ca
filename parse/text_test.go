package parse_test

import (
	"math"
	"slices"
	"strings"
	"testing"

	"gangway/api"
	"gangway/expr"
	"gangway/forms"
	"gangway/lexer"
	"gangway/parse"
)

func TestP1203Nothing(t *testing.T) {
	checkText(t, nil, "", api.OK)
	checkText(t, []parse.Stmt{}, "", api.OK)
}

func TestP1203Labels(t *testing.T) {
	for _, name := range []string{"a", ".L1", ".", "_", "nop", ".text", "short", long(255)} {
		written(t, label(name), name+":")
	}
	for _, name := range []string{"", " ", "a ", " a", "a:", "a: b", "a;", "a\n", "1", "1a", "%a", "a#", "\"a\"", "a+b", "\xff", "\x00", "?", "a,b", long(256), long(70000)} {
		unwritten(t, label(name))
	}
}

func TestP1203Instructions(t *testing.T) {
	for _, s := range instructions() {
		line, _ := forms.Text(s.Inst)
		checkText(t, []parse.Stmt{s}, line+"\n", api.OK)
	}
	written(t, jcc(5, true, target("", 0, 5)), "jne short .+5")
	written(t, jmp(false, target("short", 0, 0)), "jmp short")
	written(t, jmp(true, target("short", api.Plt, 0)), "jmp short short@plt")
	written(t, inst(api.Mov, 8, reg(0), fs("", 0, 0)), "movq %fs:0, %rax")
	// What forms.Text writes, but All reads otherwise, or not at all.
	for _, name := range []string{"x+8", "x-8", "8", "-8", "x-y", "x+y", "~0", "a/b", "a<<1", "=", "a=b", "[", "x?", "1a", "a|b", "-x", "+x", "x+", "0x10"} {
		for _, s := range []parse.Stmt{inst(api.Mov, 8, reg(0), rip(name, 0, 0)), inst(api.Mov, 8, reg(0), rip(name, 0, 4)), inst(api.Call, 8, target(name, 0, 0), none()), jmp(true, target(name, api.Plt, 0)), inst(api.Mov, 8, reg(0), rip(name, api.GotPcrel, 0)), inst(api.Mov, 8, fs(name, api.Tpoff, 8), reg(0))} {
			if forms.Check(s.Inst) != api.OK {
				t.Fatal(s.Inst)
			}
			unwritten(t, s)
		}
	}
	unwritten(t, parse.Stmt{Kind: parse.Code}, inst(api.Mov, 2, reg(0), reg(1)), inst(api.Mov, 1, reg(0), imm(256)), inst(api.Mov, 8, reg(16), reg(1)), inst(api.Nop, 0, reg(0), none()), inst(api.LastOp+1, 0, none(), none()), inst(-1, 0, none(), none()), inst(api.Jmp, 8, target(".+5", 0, 0), none()), inst(api.Mov, 8, reg(0), rip("a b", 0, 0)), inst(api.Mov, 8, reg(0), rip(long(256), 0, 0)))
}

func TestP1203Sections(t *testing.T) {
	types := map[int]string{api.ProgBits: "progbits", api.NoBits: "nobits", api.InitArray: "init_array", api.FiniArray: "fini_array"}
	letters := []struct {
		flag   int
		letter string
	}{{api.Alloc, "a"}, {api.Write, "w"}, {api.Exec, "x"}, {api.TlsFlag, "T"}}
	for kind := -1; kind <= 20; kind++ {
		for choice := range 16 {
			flags, text := 0, ""
			for k, l := range letters {
				if choice>>k&1 == 1 {
					flags, text = flags+l.flag, text+l.letter
				}
			}
			for _, name := range []string{".text", "x", ".bss", long(255)} {
				s := of(parse.Section, name, kind, flags)
				if types[kind] != "" {
					written(t, s, ".section "+name+", \""+text+"\", @"+types[kind])
				} else {
					unwritten(t, s)
				}
				for _, more := range []int{8, 16, 512, 2048, 1 << 40, math.MinInt} {
					unwritten(t, of(parse.Section, name, kind, flags|more))
				}
			}
		}
	}
	unwritten(t, of(parse.Section, ".x"), of(parse.Section, ".x", 1), of(parse.Section, ".x", 1, 2, 0), of(parse.Section, "", 1, 2), of(parse.Section, ".x-y", 1, 2), of(parse.Section, ".x, \"a\"", 1, 2), of(parse.Section, ".x", 1, -1), of(parse.Section, "1", 1, 0))
	for name, args := range usual() {
		line := map[[2]int]string{{1, 6}: `"ax", @progbits`, {1, 2}: `"a", @progbits`, {1, 3}: `"aw", @progbits`, {8, 3}: `"aw", @nobits`, {1, 1027}: `"awT", @progbits`, {8, 1027}: `"awT", @nobits`, {14, 3}: `"aw", @init_array`, {15, 3}: `"aw", @fini_array`, {1, 0}: `"", @progbits`}[args]
		written(t, all(t, ".section "+name)[0], ".section "+name+", "+line)
	}
}

func TestP1203Data(t *testing.T) {
	for size, name := range map[int]string{1: ".byte", 4: ".long", 8: ".quad"} {
		written(t, data(size, num(7)), name+" 7")
		written(t, data(size, num(-7), val("a", "b", 4), val("a", "", -4), val("", "b", 0), num(math.MinInt), num(math.MaxInt), val("a", "b", math.MinInt)), name+" -7, a-b+4, a-4, -b, -9223372036854775808, 9223372036854775807, a-b-9223372036854775808")
		written(t, data(size, slices.Repeat([]expr.Value{num(5)}, 5000)...), name+" 5"+strings.Repeat(", 5", 4999))
		unwritten(t, data(size), data(size, val("a", "a", 0)), data(size, val("a", "a", 5)), data(size, val("1", "", 0)), data(size, val("a", "-b", 0)), data(size, val("a+1", "", 0)), data(size, val("a b", "", 0)), data(size, val("a,b", "", 0)), data(size, val("a", "b#", 0)), data(size, num(1), val("", " ", 0)), data(size, val(long(256), "", 0)), data(size, val("", "", 1), val("(a)", "", 1)))
		unwritten(t, parse.Stmt{Kind: parse.Data, Args: []int{size, 0}, Values: []expr.Value{num(1)}})
	}
	for _, size := range []int{0, 2, 3, 5, 7, 9, 16, -1, -8, math.MinInt, math.MaxInt} {
		unwritten(t, data(size, num(7)), data(size, val("nop", "", 0)))
	}
	unwritten(t, parse.Stmt{Kind: parse.Data, Values: []expr.Value{num(1)}})
}

func TestP1203Texts(t *testing.T) {
	for _, text := range []string{"", "a", "a\x00", "a\n\t\"\\", "\x00\x01\x7f\x80\xff", "# ; ,", long(60000), strings.Repeat("\n", 30000)} {
		written(t, ascii(text), ".ascii "+lexer.Quote(text))
	}
	written(t, all(t, `.asciz "a", "b"`)[0], `.ascii "a\x00b\x00"`)
	for b := range 256 {
		written(t, ascii(string([]byte{byte(b)})), ".ascii "+lexer.Quote(string([]byte{byte(b)})))
	}
	for _, text := range []string{"", "a", "b/c.s", "\n\"", long(255), strings.Repeat("\xff", 255)} {
		s := file(200, text)
		if text == "" {
			unwritten(t, s)
		} else {
			written(t, s, ".file 200 "+lexer.Quote(text))
		}
	}
	unwritten(t, file(1, long(256)), file(1, "a\x00"), file(1, "\x00"), file(0, "a"), file(256, "a"), file(-1, "a"), file(math.MinInt, "a"), parse.Stmt{Kind: parse.File, Text: "a"}, parse.Stmt{Kind: parse.File, Text: "a", Args: []int{1, 2}}, parse.Stmt{Kind: parse.File, Args: []int{1}})
	written(t, file(1, "a"), ".file 1 \"a\"")
	written(t, file(255, "a"), ".file 255 \"a\"")
}

func TestP1203Numbers(t *testing.T) {
	written(t, of(parse.Align, "", 1, 0), ".balign 1, 0")
	written(t, of(parse.Align, "", 4096, 255), ".balign 4096, 255")
	written(t, of(parse.Zero, "", 0, 0), ".zero 0, 0")
	written(t, of(parse.Zero, "", 1<<20, 255), ".zero 1048576, 255")
	written(t, of(parse.Loc, "", 1, 0, 0), ".loc 1 0 0")
	written(t, of(parse.Loc, "", 255, math.MaxInt32, 65535), ".loc 255 2147483647 65535")
	for _, kind := range []int{parse.Align, parse.Zero} {
		unwritten(t, of(kind, ""), of(kind, "", 4), of(kind, "", 4, 0, 0), of(kind, "", 4, -1), of(kind, "", 4, 256), of(kind, "", -4, 0), of(kind, "", 1<<21, 0), of(kind, "", math.MinInt, 0), of(kind, "a", 4, 0))
	}
	unwritten(t, of(parse.Align, "", 0, 0), of(parse.Align, "", 3, 0), of(parse.Align, "", 8192, 0), of(parse.Align, "", math.MinInt, 0), of(parse.Zero, "", 1<<20+1, 0))
	unwritten(t, of(parse.Loc, ""), of(parse.Loc, "", 1), of(parse.Loc, "", 1, 2), of(parse.Loc, "", 1, 2, 3, 4), of(parse.Loc, "", 0, 1, 1), of(parse.Loc, "", 256, 1, 1), of(parse.Loc, "", 1, -1, 1), of(parse.Loc, "", 2, -1, 5), of(parse.Loc, "", 1, 5, -4), of(parse.Loc, "", 1, math.MaxInt32+1, 0), of(parse.Loc, "", 1, 1, 65536), of(parse.Loc, "", -1, 1, 1), of(parse.Loc, "a", 1, 1, 1))
}

func TestP1203Names(t *testing.T) {
	for bind, name := range map[int]string{api.Global: ".globl", api.Weak: ".weak", api.Local: ".local"} {
		written(t, of(parse.Bind, "a", bind), name+" a")
		unwritten(t, of(parse.Bind, "", bind), of(parse.Bind, "1", bind), of(parse.Bind, "a b", bind), of(parse.Bind, "a", bind, 0))
	}
	unwritten(t, of(parse.Bind, "a", 3), of(parse.Bind, "a", -1), of(parse.Bind, "a"), of(parse.Bind, "a:", 7), of(parse.Bind, "nop", 7))
	for kind, name := range map[int]string{api.NoType: "notype", api.Object: "object", api.Func: "function", api.Tls: "tls_object", api.Ifunc: "gnu_indirect_function"} {
		written(t, of(parse.Type, "a", kind), ".type a, @"+name)
		unwritten(t, of(parse.Type, "", kind), of(parse.Type, "1", kind), of(parse.Type, "a b", kind), of(parse.Type, "a", kind, 0))
	}
	unwritten(t, of(parse.Type, "a", 3), of(parse.Type, "a", 7), of(parse.Type, "a", -1), of(parse.Type, "a"), of(parse.Type, "a", 11))
	for kind, name := range map[int]string{parse.Size: ".size", parse.Set: ".set"} {
		written(t, valued(kind, "f", num(5)), name+" f, 5")
		written(t, valued(kind, "f", val(".", "f", -3)), name+" f, .-f-3")
		unwritten(t, valued(kind, "f"), valued(kind, "", num(5)), valued(kind, "f", num(5), num(6)), valued(kind, "1", num(5)), valued(kind, "f", val("a", "a", 0)), valued(kind, "f, 5", num(5)), parse.Stmt{Kind: kind, Name: "f", Args: []int{1}, Values: []expr.Value{num(5)}})
	}
	written(t, of(parse.Tlsgd, "v"), ".tlsgd v")
	written(t, of(parse.Tlsld, ""), ".tlsld")
	unwritten(t, of(parse.Tlsgd, ""), of(parse.Tlsgd, "v w"), of(parse.Tlsgd, "v", 0), of(parse.Tlsgd, "1"), of(parse.Tlsld, "v"), of(parse.Tlsld, "", 0))
}

func TestP1203Cfi(t *testing.T) {
	for _, name := range []string{"startproc", "endproc", "remember_state", "restore_state"} {
		written(t, of(parse.Cfi, name), ".cfi_"+name)
		unwritten(t, of(parse.Cfi, name, 0), of(parse.Cfi, name+" "), of(parse.Cfi, ".cfi_"+name), of(parse.Cfi, name+"#"), of(parse.Cfi, name+";nop"))
	}
	for _, name := range []string{"def_cfa", "offset", "rel_offset"} {
		written(t, of(parse.Cfi, name, 7, 8), ".cfi_"+name+" 7, 8")
		written(t, of(parse.Cfi, name, 0, math.MinInt32), ".cfi_"+name+" 0, -2147483648")
		written(t, of(parse.Cfi, name, 16, math.MaxInt32), ".cfi_"+name+" 16, 2147483647")
		unwritten(t, of(parse.Cfi, name), of(parse.Cfi, name, 7), of(parse.Cfi, name, 7, 8, 9), of(parse.Cfi, name, -1, 8), of(parse.Cfi, name, 17, 8), of(parse.Cfi, name, 7, math.MaxInt32+1), of(parse.Cfi, name, 7, math.MinInt32-1), of(parse.Cfi, name+" 7", 8))
	}
	for _, name := range []string{"def_cfa_offset", "adjust_cfa_offset"} {
		written(t, of(parse.Cfi, name, -16), ".cfi_"+name+" -16")
		unwritten(t, of(parse.Cfi, name), of(parse.Cfi, name, 7, 8), of(parse.Cfi, name, math.MaxInt32+1), of(parse.Cfi, name+" 7"))
	}
	for _, name := range []string{"def_cfa_register", "restore", "undefined", "same_value"} {
		written(t, of(parse.Cfi, name, 16), ".cfi_"+name+" 16")
		written(t, all(t, ".cfi_"+name+" %rbp")[0], ".cfi_"+name+" 6")
		unwritten(t, of(parse.Cfi, name), of(parse.Cfi, name, 7, 8), of(parse.Cfi, name, 17), of(parse.Cfi, name, -1), of(parse.Cfi, name+" %rbp"))
	}
	unwritten(t, of(parse.Cfi, ""), of(parse.Cfi, "nothing"), of(parse.Cfi, "", 1), of(parse.Cfi, "cfi_startproc"))
}

// everyKind: of each kind one statement at least, as All answers it, but for its line.
func everyKind(t *testing.T) []parse.Stmt {
	t.Helper()
	return all(t, "f: pushq %rbp; .section .x, \"aw\"; .quad a - b + 4, 7; .asciz \"a\"; .balign 8; .zero 5, 6; .globl f; .type f, @function; .size f, 5; .cfi_startproc; .cfi_offset %rbp, -16; .file 1 \"a.s\"; .loc 1 2 3; .tlsgd v; .tlsld; .set k, 5; ret; jne short .+5; movq x@gotpcrel(%rip), %rax; .text; .ascii \"\"; .cfi_def_cfa_offset 0")
}

// TestP1203OtherFields: what a row does not name is zero.
func TestP1203OtherFields(t *testing.T) {
	for _, s := range everyKind(t) {
		checkText(t, []parse.Stmt{s}, textOf(t, []parse.Stmt{s}), api.OK)
		if s.Name == "" {
			other := s
			other.Name = "x"
			unwritten(t, other)
		}
		if s.Text == "" && s.Kind != parse.Ascii {
			other := s
			other.Text = "x"
			unwritten(t, other)
		}
		if s.Inst == (api.Inst{}) {
			other := s
			other.Inst.Op = api.Nop
			unwritten(t, other)
			other.Inst = api.Inst{Short: true}
			unwritten(t, other)
		}
		other := s
		other.Args = append(slices.Clone(s.Args), 0)
		unwritten(t, other)
		other = s
		if s.Kind != parse.Data {
			other.Values = append(slices.Clone(s.Values), num(0))
			unwritten(t, other)
		}
		for _, kind := range []int{math.MinInt, -1, 0, 17, 18, math.MaxInt} {
			other := s
			other.Kind = kind
			unwritten(t, other)
		}
	}
	unwritten(t, parse.Stmt{}, parse.Stmt{Kind: 17}, parse.Stmt{Kind: -1}, parse.Stmt{Kind: math.MaxInt}, parse.Stmt{Kind: 0, Name: "a"})
}

// TestP1203NilAndEmpty: they mean the same within a statement, too.
func TestP1203NilAndEmpty(t *testing.T) {
	for _, s := range everyKind(t) {
		line := textOf(t, []parse.Stmt{s})
		if len(s.Args) == 0 {
			s.Args = []int{}
		}
		if len(s.Values) == 0 {
			s.Values = []expr.Value{}
		}
		checkText(t, []parse.Stmt{s}, line, api.OK)
	}
}

func TestP1203Several(t *testing.T) {
	l := all(t, "a: movl $1, %eax; .cfi_def_cfa %rsp, 8; .zero 4; .data; .loc 1 2; .globl a; .file 1 \"x\"")
	checkText(t, l, "a:\nmovl $1, %eax\n.cfi_def_cfa 7, 8\n.zero 4, 0\n.section .data, \"aw\", @progbits\n.loc 1 2 0\n.globl a\n.file 1 \"x\"\n", api.OK)
	// Each one counts alone: a name that is set twice, and one that is set and used.
	set := valued(parse.Set, "k", num(1))
	checkText(t, []parse.Stmt{set, set, data(1, val("k", "", 0)), valued(parse.Set, "k", val("k", "", 1))}, ".set k, 1\n.set k, 1\n.byte k\n.set k, k+1\n", api.OK)
}

func TestP1203MaxLines(t *testing.T) {
	l := slices.Repeat([]parse.Stmt{nop()}, 4001)
	checkText(t, l[:4000], strings.Repeat("nop\n", 4000), api.OK)
	checkText(t, l, "", api.ErrSize)
	checkText(t, slices.Repeat(l, 2), "", api.ErrSize)
	// A statement that is none is told ahead of it, wherever it stands.
	unwritten := parse.Stmt{Kind: parse.Align, Args: []int{3, 0}}
	checkText(t, append(l, unwritten), "", api.ErrSyntax)
	checkText(t, append([]parse.Stmt{unwritten}, l...), "", api.ErrSyntax)
}

func TestP1203MaxText(t *testing.T) {
	// .ascii, a blank, two quotes and the line feed: 10 bytes.
	full := ascii(long(65526))
	checkText(t, []parse.Stmt{full}, ".ascii \""+long(65526)+"\"\n", api.OK)
	checkText(t, []parse.Stmt{full, nop()}, "", api.ErrSize)
	checkText(t, []parse.Stmt{nop(), full}, "", api.ErrSize)
	// The line has MaxText bytes alone, but not with its line feed.
	checkText(t, []parse.Stmt{ascii(long(65527))}, "", api.ErrSize)
	checkText(t, []parse.Stmt{ascii(long(65522)), nop()}, ".ascii \""+long(65522)+"\"\nnop\n", api.OK)
	checkText(t, []parse.Stmt{ascii(long(65523)), nop()}, "", api.ErrSize)
	checkText(t, []parse.Stmt{nop(), ascii(long(65522))}, "nop\n.ascii \""+long(65522)+"\"\n", api.OK)
	checkText(t, []parse.Stmt{nop(), ascii(long(65523))}, "", api.ErrSize)
	half := ascii(long(32758))
	checkText(t, []parse.Stmt{half, half}, strings.Repeat(".ascii \""+long(32758)+"\"\n", 2), api.OK)
	checkText(t, []parse.Stmt{half, half, label("a")}, "", api.ErrSize)
	// A line that has more than MaxText bytes is one of which All answers no statement.
	unwritten(t, ascii(long(65528)), ascii(long(70000)), ascii(strings.Repeat("\x00", 20000)), data(1, slices.Repeat([]expr.Value{num(0)}, 30000)...))
	checkText(t, []parse.Stmt{full, full, {Kind: parse.Zero, Args: []int{-1, 0}}}, "", api.ErrSyntax)
	checkText(t, append(slices.Repeat([]parse.Stmt{full}, 50), parse.Stmt{}), "", api.ErrSyntax)
	checkText(t, slices.Repeat([]parse.Stmt{full}, 50), "", api.ErrSize)
}
