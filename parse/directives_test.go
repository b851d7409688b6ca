package parse_test

import (
	"fmt"
	"math"
	"strings"
	"testing"

	"gangway/api"
	"gangway/lexer"
	"gangway/parse"
)

// usual: the type and the flags of sections of which the name alone is told.
func usual() map[string][2]int {
	return map[string][2]int{
		".text": {api.ProgBits, 6}, ".rodata": {api.ProgBits, 2}, ".data": {api.ProgBits, 3}, ".bss": {api.NoBits, 3},
		".tdata": {api.ProgBits, 1027}, ".tbss": {api.NoBits, 1027}, ".init_array": {api.InitArray, 3}, ".fini_array": {api.FiniArray, 3},
		".x": {api.ProgBits, 0}, "text": {api.ProgBits, 0}, ".text.": {api.ProgBits, 0}, ".text.f": {api.ProgBits, 0}, ".TEXT": {api.ProgBits, 0}, "_": {api.ProgBits, 0}, ".debug_line": {api.ProgBits, 0}, ".eh_frame": {api.ProgBits, 0}, long(255): {api.ProgBits, 0}, ".": {api.ProgBits, 0},
	}
}

func TestP1201Sections(t *testing.T) {
	for name, args := range usual() {
		is(t, ".section "+name, of(parse.Section, name, args[0], args[1]))
		is(t, ".section "+name+", \"\"", of(parse.Section, name, api.ProgBits, 0))
		is(t, ".section "+name+", \"w\"", of(parse.Section, name, api.ProgBits, api.Write))
		is(t, ".section "+name+", \"\", @nobits", of(parse.Section, name, api.NoBits, 0))
	}
	for _, name := range []string{".text", ".data", ".bss", ".rodata"} {
		args := usual()[name]
		is(t, name, of(parse.Section, name, args[0], args[1]))
		is(t, name+"; nop", of(parse.Section, name, args[0], args[1]), nop())
		refused(t, api.ErrSyntax, name+" 1", name+" a", name+" ,", name+" \"aw\"", name+" "+name, name+", \"a\"", name+" %rax")
	}
}

// TestP1201SectionFlags: each choice of letters, in each order; no letter twice, and no other one.
func TestP1201SectionFlags(t *testing.T) {
	bits := map[byte]int{'a': api.Alloc, 'w': api.Write, 'x': api.Exec, 'T': api.TlsFlag}
	var grow func(letters string, flags int)
	grow = func(letters string, flags int) {
		is(t, ".section .x, \""+letters+"\"", of(parse.Section, ".x", api.ProgBits, flags))
		is(t, ".section .bss, \""+letters+"\", @fini_array", of(parse.Section, ".bss", api.FiniArray, flags))
		for letter, bit := range bits {
			text := letters + string([]byte{letter})
			if flags&bit == 0 {
				grow(text, flags|bit)
			} else {
				refused(t, api.ErrSyntax, ".section .x, \""+text+"\"", ".section .x, \""+text+"\", @nobits")
			}
		}
	}
	grow("", 0)
	for b := range 256 {
		letter := string([]byte{byte(b)})
		if !strings.Contains("awxT", letter) {
			refused(t, api.ErrSyntax, ".section .x, "+lexer.Quote(letter), ".section .x, "+lexer.Quote("a"+letter), ".section .x, "+lexer.Quote(letter+"a"))
		}
	}
}

func TestP1201SectionTypes(t *testing.T) {
	for word, kind := range map[string]int{"progbits": api.ProgBits, "nobits": api.NoBits, "init_array": api.InitArray, "fini_array": api.FiniArray} {
		is(t, ".section .x, \"xa\", @"+word, of(parse.Section, ".x", kind, 6))
		is(t, ".section .tbss,\"\",@ "+word, of(parse.Section, ".tbss", kind, 0))
		refused(t, api.ErrSyntax, ".section .x, @"+word, ".section .x, \"a\", "+word, ".section .x, \"a\" @"+word, ".section .x, \"a\", @"+word+" 1", ".section .x, \"a\", @"+word+", 1", ".section .x, \"a\", @\""+word+"\"", ".section .x, \"a\", @"+word+"s", ".section .x, \"a\", @"+strings.ToUpper(word), ".section .x, \"a\", %"+word)
	}
	refused(t, api.ErrSyntax, ".section", ".section ,", ".section 1", ".section \".x\"", ".section %x", ".section .x,", ".section .x, a", ".section .x, 1", ".section .x .y", ".section .x \"a\"", ".section .x, \"a\",", ".section .x, \"a\", @", ".section .x, \"a\", @1", ".section .x, \"a\", @note", ".section .x, \"a\", @object", ".section .x, \"a\", \"b\"", ".section .x, \"a\" \"b\"", ".section .x, \"a\", @@nobits", ".section .x,, @nobits")
}

func TestP1201Data(t *testing.T) {
	for name, size := range map[string]int{".byte": 1, ".long": 4, ".quad": 8} {
		is(t, name+" 1", data(size, num(1)))
		is(t, name+" 1, 2,3 , a", data(size, num(1), num(2), num(3), val("a", "", 0)))
		is(t, name+" -1, ~0, 0xffffffffffffffff, 9223372036854775808", data(size, num(-1), num(-1), num(-1), num(math.MinInt)))
		is(t, name+" 300, a - b + 4, -c, (d)", data(size, num(300), val("a", "b", 4), val("", "c", 0), val("d", "", 0)))
		is(t, name+" "+strings.Repeat("1, ", 5000)+"1", data(size, all(t, ".byte "+strings.Repeat("1, ", 5000)+"1")[0].Values...))
		refused(t, api.ErrExpr, name, name+" ,", name+" 1,", name+" , 1", name+" 1,, 2", name+" \"a\"", name+" %rax", name+" $1")
		refused(t, api.ErrSyntax, name+" 1 2", name+" 1 a", name+" 1 \"a\"", name+" 1)", name+" a(%rip)", name+" a@plt", name+" 1:", name+" 1 ~2")
	}
	if l := all(t, ".byte "+strings.Repeat("1, ", 5000)+"1"); len(l) != 1 || len(l[0].Values) != 5001 {
		t.Error(len(l))
	}
}

func TestP1201Texts(t *testing.T) {
	is(t, `.ascii ""`, ascii(""))
	is(t, `.asciz ""`, ascii("\x00"))
	is(t, `.ascii "a"`, ascii("a"))
	is(t, `.asciz "a"`, ascii("a\x00"))
	is(t, `.ascii "a", "b","","c\n"`, ascii("abc\n"))
	is(t, `.asciz "a", "b","","c\n"`, ascii("a\x00b\x00\x00c\n\x00"))
	is(t, `.ascii "a\0b\xff\"\\ #;"`, ascii("a\x00b\xff\"\\ #;"))
	is(t, `.asciz "`+long(60000)+`"`, ascii(long(60000)+"\x00"))
	is(t, ".ascii "+strings.Repeat(`"a",`, 15000)+`"b"`, ascii(strings.Repeat("a", 15000)+"b"))
	is(t, ".asciz "+strings.Repeat(`"",`, 15000)+`""`, ascii(strings.Repeat("\x00", 15001)))
	for _, name := range []string{".ascii", ".asciz"} {
		refused(t, api.ErrSyntax, name, name+" ,", name+" a", name+" 1", name+" 'a'", name+` "a",`, name+` , "a"`, name+` "a" "b"`, name+` "a",, "b"`, name+` "a", b`, name+` "a", 1`, name+` "a" 1`, name+` ("a")`, name+` "a" + "b"`, name+` %a`)
	}
}

func TestP1201Align(t *testing.T) {
	for n := -2; n <= 8200; n++ {
		text := fmt.Sprintf(".balign %d", n)
		if n >= 1 && n <= 4096 && n&(n-1) == 0 {
			is(t, text, of(parse.Align, "", n, 0))
			is(t, text+", 144", of(parse.Align, "", n, 144))
		} else {
			checkAll(t, text, nil, 1, api.ErrSyntax)
			checkAll(t, text+", 1", nil, 1, api.ErrSyntax)
		}
	}
	refused(t, api.ErrSyntax, ".balign 0x8000000000000000", ".balign 1 << 62", ".balign -4096", ".balign 4 4", ".balign 4, 1, 1", ".balign 4, 1 1", ".balign 4 \"a\"", ".balign 4)")
}

func TestP1201Zero(t *testing.T) {
	for _, n := range []int{0, 1, 2, 3, 4095, 4096, 1<<20 - 1, 1 << 20} {
		is(t, fmt.Sprintf(".zero %d", n), of(parse.Zero, "", n, 0))
		is(t, fmt.Sprintf(".zero %d, 7", n), of(parse.Zero, "", n, 7))
	}
	for _, n := range []int{-1, -2, 1<<20 + 1, 1 << 21, math.MaxInt, math.MinInt, math.MinInt + 1} {
		refused(t, api.ErrSyntax, fmt.Sprintf(".zero %d", n), fmt.Sprintf(".zero %d, 7", n))
	}
	refused(t, api.ErrSyntax, ".zero 1 1", ".zero 1, 1, 1", ".zero 1, 1 1", ".zero 1 a")
}

func TestP1201Fill(t *testing.T) {
	for _, ahead := range []string{".balign 4", ".zero 4"} {
		kind := all(t, ahead)[0].Kind
		for n := range 256 {
			is(t, fmt.Sprintf("%s, %d", ahead, n), of(kind, "", 4, n))
		}
		for _, n := range []int{-1, -128, 256, 257, 512, math.MaxInt, math.MinInt} {
			refused(t, api.ErrSyntax, fmt.Sprintf("%s, %d", ahead, n))
		}
	}
}

func TestP1201Bindings(t *testing.T) {
	for name, bind := range map[string]int{".globl": api.Global, ".weak": api.Weak, ".local": api.Local} {
		for _, symbol := range []string{"a", ".L1", ".", "_x", "nop", ".globl", long(255)} {
			is(t, name+" "+symbol, of(parse.Bind, symbol, bind))
		}
		refused(t, api.ErrSyntax, name, name+" 1", name+" \"a\"", name+" %a", name+" a b", name+" a, b", name+" a,", name+" ,", name+" a:", name+" a@plt", name+" a + 1", name+" (a)")
	}
}

func TestP1201Types(t *testing.T) {
	for word, kind := range map[string]int{"notype": 0, "object": 1, "function": 2, "tls_object": 6, "gnu_indirect_function": 10} {
		is(t, ".type a, @"+word, of(parse.Type, "a", kind))
		is(t, ".type .L,@ "+word, of(parse.Type, ".L", kind))
		refused(t, api.ErrSyntax, ".type a, "+word, ".type a @"+word, ".type a, @"+word+"s", ".type a, @"+strings.ToUpper(word), ".type a, @"+word+" 1", ".type a, @"+word+", 1", ".type a, \""+word+"\"", ".type 1, @"+word, ".type , @"+word, ".type @"+word, ".type a, %"+word)
	}
	refused(t, api.ErrSyntax, ".type", ".type a", ".type a,", ".type a, @", ".type a, @1", ".type a, @func", ".type a, @tls", ".type a, @common", ".type a, @progbits", ".type \"a\", @object")
}

func TestP1201Sizes(t *testing.T) {
	is(t, ".size f, 5", valued(parse.Size, "f", num(5)))
	is(t, ".size f, .-f", valued(parse.Size, "f", val(".", "f", 0)))
	is(t, ".size .L1, -1", valued(parse.Size, ".L1", num(-1)))
	is(t, ".size f, f + 1; .size f, 1", valued(parse.Size, "f", val("f", "", 1)), valued(parse.Size, "f", num(1)))
	refused(t, api.ErrSyntax, ".size", ".size f", ".size f 5", ".size 1, 5", ".size , 5", ".size f, 5, 6", ".size f, 5 6", ".size \"f\", 5", ".size f: 5", ".size %f, 5")
	is(t, ".set f, 5", valued(parse.Set, "f", num(5)))
	is(t, ".set f, a - b - 1", valued(parse.Set, "f", val("a", "b", -1)))
	refused(t, api.ErrSyntax, ".set", ".set f", ".set f 5", ".set 1, 5", ".set , 5", ".set f, 5, 6", ".set f, 5 6", ".set \"f\", 5", ".set f = 5", ".set %f, 5")
}

// registers: of 8 bytes, with their numbers by DWARF.
func registers() map[string]int {
	return map[string]int{"rax": 0, "rdx": 1, "rcx": 2, "rbx": 3, "rsi": 4, "rdi": 5, "rbp": 6, "rsp": 7, "r8": 8, "r9": 9, "r10": 10, "r11": 11, "r12": 12, "r13": 13, "r14": 14, "r15": 15}
}

func TestP1201Cfi(t *testing.T) {
	for _, name := range []string{"startproc", "endproc", "remember_state", "restore_state"} {
		is(t, ".cfi_"+name, of(parse.Cfi, name))
		refused(t, api.ErrSyntax, ".cfi_"+name+" 1", ".cfi_"+name+" simple", ".cfi_"+name+" %rax", ".cfi_"+name+",")
	}
	for _, name := range []string{"def_cfa", "offset", "rel_offset"} {
		for _, n := range []int{math.MinInt32, math.MinInt32 + 1, -16, -1, 0, 1, 8, math.MaxInt32 - 1, math.MaxInt32} {
			is(t, fmt.Sprintf(".cfi_%s 5, %d", name, n), of(parse.Cfi, name, 5, n))
			is(t, fmt.Sprintf(".cfi_%s %%rbp,%d", name, n), of(parse.Cfi, name, 6, n))
		}
		refused(t, api.ErrSyntax, ".cfi_"+name+" 6", ".cfi_"+name+" 6 8", ".cfi_"+name+" %rbp", ".cfi_"+name+" %rbp 8", ".cfi_"+name+" 6, 8, 1", ".cfi_"+name+" 6, 8 1", ".cfi_"+name+" 6, -2147483649", ".cfi_"+name+" 6, 2147483648", ".cfi_"+name+" 6, 0x8000000000000000", ".cfi_"+name+" 6, 0x7fffffffffffffff")
		refused(t, api.ErrExpr, ".cfi_"+name+" 6, %rbp", ".cfi_"+name+" %rbp, %rsp", ".cfi_"+name+" 6,")
	}
	for _, name := range []string{"def_cfa_offset", "adjust_cfa_offset"} {
		for _, n := range []int{math.MinInt32, math.MinInt32 + 1, -8, 0, 16, math.MaxInt32 - 1, math.MaxInt32} {
			is(t, fmt.Sprintf(".cfi_%s %d", name, n), of(parse.Cfi, name, n))
		}
		refused(t, api.ErrSyntax, ".cfi_"+name+" 1, 2", ".cfi_"+name+" 1 2", ".cfi_"+name+" -2147483649", ".cfi_"+name+" 2147483648")
		refused(t, api.ErrExpr, ".cfi_"+name, ".cfi_"+name+" %rbp", ".cfi_"+name+" %rbp, 8")
	}
	for _, name := range []string{"def_cfa_register", "restore", "undefined", "same_value"} {
		is(t, ".cfi_"+name+" %rsp", of(parse.Cfi, name, 7))
		refused(t, api.ErrSyntax, ".cfi_"+name+" 1, 2", ".cfi_"+name+" %rax, 1", ".cfi_"+name+" 1 2", ".cfi_"+name+" %rax %rbx", ".cfi_"+name+" %rax + 1")
	}
}

func TestP1201CfiRegisters(t *testing.T) {
	for _, row := range []struct{ ahead, behind string }{{"def_cfa ", ", 8"}, {"offset ", ", 8"}, {"rel_offset ", ", 8"}, {"def_cfa_register ", ""}, {"restore ", ""}, {"undefined ", ""}, {"same_value ", ""}} {
		want := func(r int) parse.Stmt {
			s := of(parse.Cfi, strings.TrimSpace(row.ahead), r)
			if row.behind != "" {
				s.Args = append(s.Args, 8)
			}
			return s
		}
		for name, r := range registers() {
			is(t, ".cfi_"+row.ahead+"%"+name+row.behind, want(r))
		}
		for r := range 17 {
			is(t, fmt.Sprintf(".cfi_%s%d%s", row.ahead, r, row.behind), want(r))
		}
		for _, r := range []int{-1, -2, 17, 18, 32, math.MaxInt, math.MinInt} {
			refused(t, api.ErrSyntax, fmt.Sprintf(".cfi_%s%d%s", row.ahead, r, row.behind))
		}
		for _, name := range []string{"eax", "al", "r8d", "r8b", "spl", "rip", "fs", "xmm0", "r16", "r", "RAX", "rax1", "st"} {
			refused(t, api.ErrSyntax, ".cfi_"+row.ahead+"%"+name+row.behind)
		}
	}
}

func TestP1201File(t *testing.T) {
	for _, n := range []int{1, 2, 127, 128, 254, 255} {
		is(t, fmt.Sprintf(".file %d \"a.s\"", n), file(n, "a.s"))
	}
	for _, n := range []int{0, -1, 256, 257, math.MaxInt, math.MinInt} {
		refused(t, api.ErrSyntax, fmt.Sprintf(".file %d \"a.s\"", n))
	}
	for _, text := range []string{"a", " ", "\n", "\xff", "\x01", "a b/c\\\"", long(254), long(255), strings.Repeat("\xff", 255)} {
		is(t, ".file 1 "+lexer.Quote(text), file(1, text))
	}
	for _, text := range []string{"", long(256), long(1000), "\x00", "a\x00", "\x00a", "a\x00b", long(254) + "\x00", strings.Repeat("\xff", 256)} {
		refused(t, api.ErrSyntax, ".file 1 "+lexer.Quote(text))
	}
	refused(t, api.ErrSyntax, ".file 1", ".file 1 a", ".file 1, \"a\"", ".file 1 \"a\" \"b\"", ".file 1 \"a\", 1", ".file 1 \"a\" 1", ".file 1 2 \"a\"", ".file 1 (\"a\")")
	refused(t, api.ErrExpr, ".file", ".file \"a\"", ".file \"a\" 1", ".file , \"a\"", ".file 1 + \"a\"")
}

func TestP1201Loc(t *testing.T) {
	for _, n := range []int{1, 2, 254, 255} {
		is(t, fmt.Sprintf(".loc %d 5", n), of(parse.Loc, "", n, 5, 0))
		is(t, fmt.Sprintf(".loc %d 5 6", n), of(parse.Loc, "", n, 5, 6))
	}
	for _, n := range []int{0, 1, 70000, math.MaxInt32 - 1, math.MaxInt32} {
		is(t, fmt.Sprintf(".loc 1 %d", n), of(parse.Loc, "", 1, n, 0))
		is(t, fmt.Sprintf(".loc 1 %d 1", n), of(parse.Loc, "", 1, n, 1))
	}
	for _, n := range []int{0, 1, 256, 65534, 65535} {
		is(t, fmt.Sprintf(".loc 1 5 %d", n), of(parse.Loc, "", 1, 5, n))
	}
	for _, n := range []int{0, -1, 256, 300, math.MaxInt, math.MinInt} {
		refused(t, api.ErrSyntax, fmt.Sprintf(".loc %d 5", n), fmt.Sprintf(".loc %d 5 6", n))
	}
	for _, n := range []int{math.MaxInt32 + 1, math.MaxInt, 1 << 32} {
		refused(t, api.ErrSyntax, fmt.Sprintf(".loc 1 %d", n), fmt.Sprintf(".loc 1 %d 1", n))
	}
	for _, n := range []int{65536, 65537, math.MaxInt, 1 << 32} {
		refused(t, api.ErrSyntax, fmt.Sprintf(".loc 1 5 %d", n))
	}
	refused(t, api.ErrSyntax, ".loc 1 (-1)", ".loc 1 5 (-1)", ".loc 1 5 ~0", ".loc 1 -1", ".loc 1 5 -6", ".loc 1 5 6 7", ".loc 1 5 6 is_stmt", ".loc 1 5 6 \"a\"", ".loc 1 5 6,", ".loc 1 5 a")
	refused(t, api.ErrExpr, ".loc", ".loc 1", ".loc 1 +5", ".loc 1, 5", ".loc 1 5, 6", ".loc \"a\" 5", ".loc 1 \"a\"")
	is(t, ".loc 2 -1 5", of(parse.Loc, "", 1, 5, 0))
	is(t, ".loc 1 5 -4 7", of(parse.Loc, "", 1, 1, 7))
}

func TestP1201ThreadLocal(t *testing.T) {
	is(t, ".tlsgd v", of(parse.Tlsgd, "v"))
	is(t, ".tlsgd .L1", of(parse.Tlsgd, ".L1"))
	is(t, ".tlsld", of(parse.Tlsld, ""))
	refused(t, api.ErrSyntax, ".tlsgd", ".tlsgd 1", ".tlsgd \"v\"", ".tlsgd v w", ".tlsgd v, w", ".tlsgd v@tpoff", ".tlsgd %v", ".tlsld v", ".tlsld 1", ".tlsld ,")
}

func TestP1202Dwarf(t *testing.T) {
	for r, want := range []int{0, 2, 1, 3, 7, 6, 4, 5, 8, 9, 10, 11, 12, 13, 14, 15} {
		if parse.Dwarf(r) != want {
			t.Error(r, parse.Dwarf(r))
		}
	}
	for _, r := range []int{math.MinInt, math.MinInt32, -16, -2, -1, 16, 17, 32, 1 << 32, math.MaxInt} {
		if parse.Dwarf(r) != -1 {
			t.Error(r, parse.Dwarf(r))
		}
	}
}
