package parse

import (
	"recension/api"
	"recension/token"
)

// parser goes over the tokens once, and never back: the token at which it stops is the first one at fault.
type parser struct {
	tokens []api.Token
	at     int // the number of the token that comes next
	deep   int // the nesting of the place
}

// fail ends all: the token that comes next is at fault. Tokens catches it, so that no function of the grammar has to hand a fault on.
func (p *parser) fail() {
	panic("parse: a token is at fault")
}

func op(s string) api.Token { return api.Token{Kind: api.TOp, Text: s} }

func key(s string) api.Token { return api.Token{Kind: api.TKey, Text: s} }

// peek answers the token that comes next; a zero one: there is none.
func (p *parser) peek() api.Token {
	if p.at >= len(p.tokens) {
		return api.Token{}
	}
	return p.tokens[p.at]
}

func (p *parser) is(t api.Token) bool { return token.Eq(p.peek(), t) }

func (p *parser) isKind(kind int) bool { return p.peek().Kind == kind }

// next goes behind the token that comes next, and answers its number.
func (p *parser) next() int {
	p.at++
	return p.at - 1
}

// take is next if the token is t.
func (p *parser) take(t api.Token) bool {
	if !p.is(t) {
		return false
	}
	p.next()
	return true
}

// want is next of a token that must be t.
func (p *parser) want(t api.Token) int {
	if !p.is(t) {
		p.fail()
	}
	return p.next()
}

func (p *parser) wantKind(kind int) int {
	if !p.isKind(kind) {
		p.fail()
	}
	return p.next()
}

// enter says that the token that comes next opens a nesting; leave ends that.
func (p *parser) enter() {
	if p.deep == api.MaxDeep {
		p.fail()
	}
	p.deep++
}

func (p *parser) leave() { p.deep-- }

// open is want of a token that opens a nesting.
func (p *parser) open(t api.Token) int {
	p.enter()
	return p.want(t)
}

// skip goes behind semicolons that say nothing.
func (p *parser) skip() {
	for p.isKind(api.TSemi) {
		p.next()
	}
}

// leaf takes a token that is a node.
func (p *parser) leaf(kind, tokenKind int) api.Node {
	return api.Node{Kind: kind, Tok: p.wantKind(tokenKind)}
}

// named takes the name that is a node's token.
func (p *parser) named(kind int) api.Node { return p.leaf(kind, api.TName) }

// braces takes the pieces that stand between a `{` and its `}`, and that.
func (p *parser) braces(piece func() api.Node) []api.Node {
	var pieces []api.Node
	p.skip()
	for !p.is(op("}")) {
		pieces = append(pieces, piece())
		if !p.is(op("}")) {
			p.wantKind(api.TSemi)
		}
		p.skip()
	}
	p.want(op("}"))
	return pieces
}

// list takes the pieces that stand between a `(` and its `)`, with commas between them, and that.
func (p *parser) list(piece func() api.Node) []api.Node {
	if p.take(op(")")) {
		return nil
	}
	pieces := []api.Node{piece()}
	for p.take(op(",")) {
		pieces = append(pieces, piece())
	}
	p.want(op(")"))
	return pieces
}
