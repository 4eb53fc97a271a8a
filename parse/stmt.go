package parse

import "recension/api"

func (p *parser) block() api.Node {
	n := api.Node{Kind: api.NBlock, Tok: p.open(op("{"))}
	n.Kids = p.braces(p.statement)
	p.leave()
	return n
}

func (p *parser) statement() api.Node {
	switch {
	case p.take(key("var")):
		return p.variable()
	case p.take(key("const")):
		return p.constant()
	case p.is(op("{")):
		return p.block()
	case p.is(key("if")):
		return p.choice()
	case p.is(key("for")):
		return p.loop()
	case p.is(key("return")):
		return p.result()
	case p.is(key("break")):
		return p.jump(api.NBreak)
	case p.is(key("continue")):
		return p.jump(api.NContinue)
	}
	return p.simple()
}

func (p *parser) choice() api.Node {
	n := p.guarded(api.NIf, key("if"))
	if p.take(key("else")) {
		n.Kids = append(n.Kids, p.otherwise())
	}
	return n
}

// otherwise takes what stands behind an else.
func (p *parser) otherwise() api.Node {
	if !p.is(key("if")) {
		return p.block()
	}
	p.enter()
	n := p.choice()
	p.leave()
	return n
}

func (p *parser) loop() api.Node { return p.guarded(api.NFor, key("for")) }

// guarded takes a word, and the Expr and the block behind it.
func (p *parser) guarded(kind int, word api.Token) api.Node {
	n := api.Node{Kind: kind, Tok: p.want(word)}
	n.Kids = append(n.Kids, p.expr())
	n.Kids = append(n.Kids, p.block())
	return n
}

func (p *parser) result() api.Node {
	n := api.Node{Kind: api.NReturn, Tok: p.next()}
	if !p.isKind(api.TSemi) && !p.is(op("}")) {
		n.Kids = []api.Node{p.expr()}
	}
	return n
}

func (p *parser) jump(kind int) api.Node {
	n := api.Node{Kind: kind, Tok: p.next()}
	if p.isKind(api.TName) {
		n.Kids = []api.Node{p.named(api.NLabel)}
	}
	return n
}

// simple takes a statement that begins with an Expr. Only one that is a name, and no more, can be defined or label a for.
func (p *parser) simple() api.Node {
	first := p.at
	x := p.expr()
	name := x.Kind == api.NName
	switch {
	case name && p.take(op(":=")):
		return api.Node{Kind: api.NDefine, Tok: x.Tok, Kids: []api.Node{p.expr()}}
	case name && p.take(op(":")):
		return api.Node{Kind: api.NLabel, Tok: x.Tok, Kids: []api.Node{p.loop()}}
	case p.is(op("=")):
		n := api.Node{Kind: api.NAssign, Tok: p.next()}
		n.Kids = []api.Node{x, p.expr()}
		return n
	}
	return api.Node{Kind: api.NDo, Tok: first, Kids: []api.Node{x}}
}
