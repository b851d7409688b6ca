package parse

import (
	"strings"

	"gangway/api"
	"gangway/expr"
	"gangway/lexer"
)

// cfiPrefix: of the directives of frames.
const cfiPrefix = ".cfi_"

// Bounds of numbers, where the chapter names them.
const (
	maxAlign  = 4096
	maxZero   = 1 << 20
	maxFill   = 255
	maxFile   = 255
	maxPath   = 255
	maxLine   = 1<<31 - 1
	maxColumn = 1<<16 - 1
	maxFrame  = 16
)

// maker: of a directive's statement, without its line. It begins behind the directive's name, which it is handed.
type maker func(p *parser, name string) Stmt

// makers: by the directives' names.
func makers() map[string]maker {
	return map[string]maker{
		".text":                  (*parser).usualSection,
		".data":                  (*parser).usualSection,
		".bss":                   (*parser).usualSection,
		".rodata":                (*parser).usualSection,
		".section":               (*parser).section,
		".byte":                  (*parser).data,
		".long":                  (*parser).data,
		".quad":                  (*parser).data,
		".ascii":                 (*parser).ascii,
		".asciz":                 (*parser).ascii,
		".balign":                (*parser).align,
		".zero":                  (*parser).zero,
		".globl":                 (*parser).bind,
		".weak":                  (*parser).bind,
		".local":                 (*parser).bind,
		".type":                  (*parser).symbolType,
		".size":                  (*parser).size,
		".set":                   (*parser).set,
		".cfi_startproc":         (*parser).cfiAlone,
		".cfi_endproc":           (*parser).cfiAlone,
		".cfi_remember_state":    (*parser).cfiAlone,
		".cfi_restore_state":     (*parser).cfiAlone,
		".cfi_def_cfa":           (*parser).cfiBoth,
		".cfi_offset":            (*parser).cfiBoth,
		".cfi_rel_offset":        (*parser).cfiBoth,
		".cfi_def_cfa_offset":    (*parser).cfiNumber,
		".cfi_adjust_cfa_offset": (*parser).cfiNumber,
		".cfi_def_cfa_register":  (*parser).cfiRegister,
		".cfi_restore":           (*parser).cfiRegister,
		".cfi_undefined":         (*parser).cfiRegister,
		".cfi_same_value":        (*parser).cfiRegister,
		".file":                  (*parser).file,
		".loc":                   (*parser).loc,
		".tlsgd":                 (*parser).tlsgd,
		".tlsld":                 (*parser).tlsld,
	}
}

func (p *parser) usualSection(name string) Stmt {
	return Stmt{Kind: Section, Name: name, Args: usualArgs(name)}
}

func (p *parser) section(string) Stmt {
	name := p.name()
	if !p.takes(",") {
		return p.usualSection(name)
	}
	flags, kind := p.flags(), api.ProgBits
	if p.takes(",") {
		kind = p.marked(sectionTypes())
	}
	return Stmt{Kind: Section, Name: name, Args: []int{kind, flags}}
}

// flags: each of them at most once.
func (p *parser) flags() int {
	text, flags := p.token(lexer.Text), 0
	for at := range len(text) {
		flag, ok := sectionFlags().number(text[at : at+1])
		insist(ok && flags&flag == 0)
		flags |= flag
	}
	return flags
}

// marked: one of these words, with the sign that marks it as such.
func (p *parser) marked(l words) int {
	p.need("@")
	n, ok := l.number(p.name())
	insist(ok)
	return n
}

func (p *parser) data(name string) Stmt {
	size, _ := dataSizes().number(name)
	values := []expr.Value{p.expression()}
	for p.takes(",") {
		values = append(values, p.expression())
	}
	return Stmt{Kind: Data, Args: []int{size}, Values: values}
}

func (p *parser) ascii(name string) Stmt {
	behind := ""
	if name == ".asciz" {
		behind = "\x00"
	}
	var text strings.Builder
	text.WriteString(p.token(lexer.Text) + behind)
	for p.takes(",") {
		text.WriteString(p.token(lexer.Text) + behind)
	}
	return Stmt{Kind: Ascii, Text: text.String()}
}

func (p *parser) align(string) Stmt {
	n := p.numberFrom(1, maxAlign)
	insist(n&(n-1) == 0)
	return Stmt{Kind: Align, Args: []int{n, p.fill()}}
}

func (p *parser) zero(string) Stmt {
	n := p.numberFrom(0, maxZero)
	return Stmt{Kind: Zero, Args: []int{n, p.fill()}}
}

func (p *parser) fill() int {
	if !p.takes(",") {
		return 0
	}
	return p.numberFrom(0, maxFill)
}

func (p *parser) bind(name string) Stmt {
	bind, _ := bindings().number(name)
	return Stmt{Kind: Bind, Name: p.name(), Args: []int{bind}}
}

func (p *parser) symbolType(string) Stmt {
	name := p.name()
	p.need(",")
	return Stmt{Kind: Type, Name: name, Args: []int{p.marked(symbolTypes())}}
}

func (p *parser) size(string) Stmt {
	name := p.name()
	p.need(",")
	return Stmt{Kind: Size, Name: name, Values: []expr.Value{p.expression()}}
}

func (p *parser) set(string) Stmt {
	name := p.name()
	insist(!p.isSet(name))
	p.need(",")
	v := p.expression()
	p.known = append(p.known, expr.Def{Name: name, V: v})
	return Stmt{Kind: Set, Name: name, Values: []expr.Value{v}}
}

func cfi(name string, args ...int) Stmt {
	return Stmt{Kind: Cfi, Name: strings.TrimPrefix(name, cfiPrefix), Args: args}
}

func (p *parser) cfiAlone(name string) Stmt { return cfi(name) }

func (p *parser) cfiBoth(name string) Stmt {
	r := p.frameRegister()
	p.need(",")
	return cfi(name, r, p.frameNumber())
}

func (p *parser) cfiNumber(name string) Stmt { return cfi(name, p.frameNumber()) }

func (p *parser) cfiRegister(name string) Stmt { return cfi(name, p.frameRegister()) }

func (p *parser) frameRegister() int {
	if p.peek(0).Kind == lexer.Register {
		return Dwarf(p.wide())
	}
	return p.numberFrom(0, maxFrame)
}

func (p *parser) frameNumber() int { return p.numberFrom(-1<<31, 1<<31-1) }

func (p *parser) file(string) Stmt {
	n, text := p.numberFrom(1, maxFile), p.token(lexer.Text)
	insist(text != "" && len(text) <= maxPath && strings.IndexByte(text, 0) < 0)
	return Stmt{Kind: File, Args: []int{n}, Text: text}
}

func (p *parser) loc(string) Stmt {
	file, line, column := p.numberFrom(1, maxFile), p.numberFrom(0, maxLine), 0
	if !p.ended() {
		column = p.numberFrom(0, maxColumn)
	}
	return Stmt{Kind: Loc, Args: []int{file, line, column}}
}

func (p *parser) tlsgd(string) Stmt { return Stmt{Kind: Tlsgd, Name: p.name()} }

func (p *parser) tlsld(string) Stmt { return Stmt{Kind: Tlsld} }
