package parse

import (
	"recension/api"
	"recension/token"
)

func (p *parser) expr() api.Node { return p.above(0) }

// above takes an Expr as far as its operators are of a Rank above low.
func (p *parser) above(low int) api.Node {
	left := p.unary()
	for {
		rank := p.rank()
		if rank <= low {
			return left
		}
		n := api.Node{Kind: api.NBinary, Tok: p.next()}
		n.Kids = []api.Node{left, p.above(rank)}
		left = n
	}
}

// rank answers the Rank of the token that comes next; 0: it stands between no two.
func (p *parser) rank() int {
	if !p.isKind(api.TOp) {
		return 0
	}
	return token.Rank(p.peek().Text)
}

func (p *parser) unary() api.Node {
	if !p.isKind(api.TOp) || !token.Unary(p.peek().Text) {
		return p.primary()
	}
	n := api.Node{Kind: api.NUnary, Tok: p.open(p.peek())}
	n.Kids = []api.Node{p.unary()}
	p.leave()
	return n
}

func (p *parser) primary() api.Node {
	n := p.operand()
	for {
		switch {
		case p.is(op("(")):
			n = p.call(n)
		case p.take(op(".")):
			ahead := n
			n = p.named(api.NSelect)
			n.Kids = []api.Node{ahead}
		default:
			return n
		}
	}
}

func (p *parser) call(called api.Node) api.Node {
	n := api.Node{Kind: api.NCall, Tok: p.open(op("("))}
	n.Kids = append([]api.Node{called}, p.list(p.expr)...)
	p.leave()
	return n
}

func (p *parser) operand() api.Node {
	switch p.peek().Kind {
	case api.TName:
		return p.leaf(api.NName, api.TName)
	case api.TInt:
		return p.leaf(api.NInt, api.TInt)
	case api.TString:
		return p.leaf(api.NString, api.TString)
	}
	return p.paren()
}

func (p *parser) paren() api.Node {
	n := api.Node{Kind: api.NParen, Tok: p.open(op("("))}
	n.Kids = []api.Node{p.expr()}
	p.want(op(")"))
	p.leave()
	return n
}
