package parse

import "recension/api"

func (p *parser) file() api.Node {
	p.want(key("package"))
	kids := []api.Node{p.named(api.NPackage)}
	p.end()
	for p.take(key("import")) {
		kids = append(kids, p.named(api.NImport))
		p.end()
	}
	for !p.isKind(api.TEnd) {
		kids = append(kids, p.decl())
		p.end()
	}
	p.wantKind(api.TEnd)
	if p.at < len(p.tokens) {
		p.fail()
	}
	return api.Node{Kind: api.NFile, Kids: kids}
}

// end takes the semicolon behind a piece of a file, and those that say nothing.
func (p *parser) end() {
	p.wantKind(api.TSemi)
	p.skip()
}

func (p *parser) decl() api.Node {
	switch {
	case p.take(key("var")):
		return p.variable()
	case p.take(key("const")):
		return p.constant()
	case p.take(key("type")):
		return p.structure()
	}
	p.want(key("func"))
	return p.function()
}

func (p *parser) variable() api.Node {
	n := p.typed(api.NVar)
	if p.take(op("=")) {
		n.Kids = append(n.Kids, p.expr())
	}
	return n
}

func (p *parser) constant() api.Node {
	n := p.named(api.NConst)
	p.want(op("="))
	n.Kids = []api.Node{p.expr()}
	return n
}

func (p *parser) structure() api.Node {
	n := p.named(api.NStruct)
	p.want(key("struct"))
	p.open(op("{"))
	n.Kids = p.braces(p.field)
	p.leave()
	return n
}

func (p *parser) function() api.Node {
	n := p.named(api.NFunc)
	p.want(op("("))
	n.Kids = p.list(p.param)
	if p.isKind(api.TName) {
		n.Kids = append(n.Kids, p.typeName())
	}
	n.Kids = append(n.Kids, p.block())
	return n
}

func (p *parser) field() api.Node { return p.typed(api.NField) }

func (p *parser) param() api.Node { return p.typed(api.NParam) }

// typed takes a name and its type.
func (p *parser) typed(kind int) api.Node {
	n := p.named(kind)
	n.Kids = []api.Node{p.typeName()}
	return n
}

func (p *parser) typeName() api.Node {
	n := p.named(api.NType)
	if p.take(op(".")) {
		ahead := api.Node{Kind: api.NName, Tok: n.Tok}
		n = p.named(api.NType)
		n.Kids = []api.Node{ahead}
	}
	return n
}
