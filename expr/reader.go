package expr

import (
	"gangway/api"
	"gangway/lexer"
)

// Limits of an expression: brackets in one another, and operators of one ahead of one operand.
const (
	maxDepth = 50
	maxOnes  = 200
)

// step: goes through what it is for, from the reader's place on, and answers its value. Wherever it meets a fault first, it answers that.
type step func() (Value, api.Errno)

// reader: goes through the tokens of an expression once, and works each operator as soon as what it takes is there: so the first fault from the left is the first one that comes up.
type reader struct {
	tokens     []lexer.Token
	at         int
	depth      int
	names      names
	twos       map[string]operator
	expression step
}

func newReader(l []lexer.Token, at int, known []Def) *reader {
	r := &reader{tokens: l, at: at, names: names{known: known}, twos: operators()}
	r.expression = r.operand
	for level := range levels {
		r.expression = r.withOperators(level, r.expression)
	}
	return r
}

// withOperators: as many of what the next tighter step goes through as operators of this level hold together.
func (r *reader) withOperators(level int, tighter step) step {
	return func() (Value, api.Errno) {
		v, e := tighter()
		for e == api.OK && r.isTwo(level) {
			v, e = r.applyTwo(v, tighter)
		}
		return v, e
	}
}

// applyTwo: the operator of two that stands here, of what stood ahead of it and of what the step finds behind it.
func (r *reader) applyTwo(left Value, behind step) (Value, api.Errno) {
	o := r.twos[r.next().Text]
	right, e := behind()
	if e != api.OK {
		return Value{}, e
	}
	return o.apply(left, right)
}

// operand: one without operators of two that are not in brackets.
func (r *reader) operand() (Value, api.Errno) {
	from := r.at
	for r.isSign("-") || r.isSign("+") || r.isSign("~") {
		r.at++
		if r.at-from > maxOnes {
			return Value{}, api.ErrSize
		}
	}
	behind := r.at
	v, e := r.atom()
	for at := behind - 1; at >= from && e == api.OK; at-- {
		v, e = one(r.tokens[at].Text, v)
	}
	return v, e
}

// atom: an operand without operators of one ahead.
func (r *reader) atom() (Value, api.Errno) {
	opens := r.isSign("(")
	t := r.next()
	switch {
	case opens:
		return r.bracket()
	case t.Kind == lexer.Number:
		return Value{N: t.N}, api.OK
	case t.Kind == lexer.Name:
		return r.names.value(t.Text), api.OK
	}
	return Value{}, api.ErrExpr
}

// bracket: behind its (.
func (r *reader) bracket() (Value, api.Errno) {
	r.depth++
	if r.depth > maxDepth {
		return Value{}, api.ErrSize
	}
	v, e := r.expression()
	if e == api.OK && !r.isSign(")") {
		e = api.ErrExpr
	}
	r.at++
	r.depth--
	return v, e
}

// peek: behind the last token one that is none.
func (r *reader) peek() lexer.Token {
	if r.at >= len(r.tokens) {
		return lexer.Token{}
	}
	return r.tokens[r.at]
}

func (r *reader) next() lexer.Token {
	t := r.peek()
	r.at++
	return t
}

func (r *reader) isSign(text string) bool {
	t := r.peek()
	return t.Kind == lexer.Sign && t.Text == text
}

func (r *reader) isTwo(level int) bool {
	t := r.peek()
	o, ok := r.twos[t.Text]
	return ok && t.Kind == lexer.Sign && o.level == level
}
