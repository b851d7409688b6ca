package parse

import (
	"slices"
	"strings"

	"gangway/api"
	"gangway/expr"
	"gangway/lexer"
)

// parser: goes through tokens once, from the left on, and gives up by a panic with an error's number at the first thing that is wrong.
type parser struct {
	tokens []lexer.Token
	at     int
	line   int
	makers map[string]maker
	known  []expr.Def
	list   []Stmt
}

func newParser(l []lexer.Token) *parser {
	return &parser{tokens: l, makers: makers()}
}

// insist: where this does not hold, there is no statement.
func insist(holds bool) {
	if !holds {
		panic(api.ErrSyntax)
	}
}

func (p *parser) parts() {
	for p.at < len(p.tokens) {
		p.line = p.tokens[p.at].Line
		p.part()
		p.at++
	}
}

// part: what stands ahead of the next End.
func (p *parser) part() {
	for p.peek(0).Kind == lexer.Name && isSign(p.peek(1), ":") {
		p.add(Stmt{Kind: Label, Name: p.name()})
		p.need(":")
	}
	if p.ended() {
		return
	}
	p.add(p.statement())
	insist(p.ended())
}

func (p *parser) add(s Stmt) {
	s.Line = p.line
	p.list = append(p.list, s)
}

func (p *parser) statement() Stmt {
	name := p.name()
	if !strings.HasPrefix(name, ".") {
		return p.instruction(name)
	}
	made, ok := p.makers[name]
	insist(ok)
	return made(p, name)
}

// peek: the token so many behind the next one. The last token is an End, and nobody looks behind an End.
func (p *parser) peek(behind int) lexer.Token { return p.tokens[p.at+behind] }

func (p *parser) ended() bool { return p.peek(0).Kind == lexer.End }

func isSign(t lexer.Token, text string) bool { return t.Kind == lexer.Sign && t.Text == text }

// token: the text of the next one, which must be of this kind.
func (p *parser) token(kind int) string {
	t := p.peek(0)
	insist(t.Kind == kind)
	p.at++
	return t.Text
}

func (p *parser) name() string { return p.token(lexer.Name) }

// takes: goes past the next token, if it is this sign.
func (p *parser) takes(sign string) bool {
	if !isSign(p.peek(0), sign) {
		return false
	}
	p.at++
	return true
}

func (p *parser) need(sign string) { insist(p.takes(sign)) }

func (p *parser) expression() expr.Value {
	v, end, e := expr.Eval(p.tokens, p.at, p.known)
	if e != api.OK {
		panic(api.ErrExpr)
	}
	p.at = end
	return v
}

func (p *parser) number() int {
	v := p.expression()
	insist(v == expr.Value{N: v.N})
	return v.N
}

func (p *parser) numberFrom(low, high int) int {
	n := p.number()
	insist(low <= n && n <= high)
	return n
}

// isSigned: whether what comes begins with + or -.
func (p *parser) isSigned() bool { return isSign(p.peek(0), "+") || isSign(p.peek(0), "-") }

// wide: a register of 8 bytes.
func (p *parser) wide() int {
	r, size := p.register()
	insist(size == 8)
	return r
}

func (p *parser) isSet(name string) bool {
	return slices.ContainsFunc(p.known, func(d expr.Def) bool { return d.Name == name })
}
