package parse

import "distaff/api"

func (p *parser) block() []api.Stmt {
	p.need("{")
	p.enter()
	defer p.leave()
	var l []api.Stmt
	for !p.is("}") && p.now().Kind != api.TokEnd {
		l = append(l, p.statement())
	}
	p.need("}")
	return l
}

func (p *parser) statement() api.Stmt {
	// An if behind else is within another statement, too: that it counts as a block comes of itself.
	p.deep++
	defer func() { p.deep-- }()
	s := api.Stmt{At: p.now().At}
	// As long as an expression stands ahead of each block but a function's, that one is too deep first.
	if p.deep > api.MostDeep {
		p.fail(api.FaultSize, s.At)
	}
	switch p.now().S {
	case "if":
		p.choice(&s)
	case "while":
		p.while(&s)
	case "for":
		p.count(&s)
	default:
		p.simple(&s)
		p.need(";")
	}
	return s
}

func (p *parser) choice(s *api.Stmt) {
	s.Kind = api.StmtIf
	p.need("if")
	s.Kids = exprs(p.expr())
	s.Body = p.block()
	if p.take("else") {
		s.Else = p.otherwise()
	}
}

func (p *parser) otherwise() []api.Stmt {
	if !p.is("if") {
		return p.block()
	}
	p.enter()
	defer p.leave()
	return []api.Stmt{p.statement()}
}

func (p *parser) while(s *api.Stmt) {
	s.Kind = api.StmtWhile
	p.need("while")
	s.Kids = exprs(p.expr())
	s.Body = p.block()
}

func (p *parser) count(s *api.Stmt) {
	s.Kind = api.StmtFor
	p.need("for")
	s.S = p.name()
	p.need("=")
	first := p.expr()
	p.need("to")
	s.Kids = exprs(first, p.expr())
	s.Step = p.step()
	s.Body = p.block()
}

func (p *parser) step() int64 {
	if !p.take("step") {
		return 1
	}
	down := p.take("-")
	word := p.next()
	if word.Kind != api.TokInt || word.N == 0 {
		p.refuse(word)
	}
	if down {
		return -word.N
	}
	return word.N
}

// simple reads a statement without blocks, up to its end.
func (p *parser) simple(s *api.Stmt) {
	word := p.next()
	if word.Kind == api.TokName {
		p.named(s, word)
		return
	}
	switch word.S {
	case "var":
		s.Kind = api.StmtVar
		s.S = p.name()
		p.need("=")
		s.Kids = exprs(p.expr())
	case "break":
		s.Kind = api.StmtBreak
	case "continue":
		s.Kind = api.StmtContinue
	case "return":
		s.Kind = api.StmtReturn
		if !p.is(";") {
			s.Kids = exprs(p.expr())
		}
	case "print":
		s.Kind = api.StmtPrint
		s.Kids = exprs(p.expr())
	default:
		p.refuse(word)
	}
}

// named reads a statement that begins with a name. Ahead of = a name is no expression: it is not asked how deep it is.
func (p *parser) named(s *api.Stmt, name api.Token) {
	switch {
	case p.take("="):
		s.Kind = api.StmtSet
		s.S = name.S
		s.Kids = exprs(p.expr())
	case p.is("("), p.is("["):
		p.begun(s, p.indexed(p.called(name)))
	default:
		p.refuse(p.now())
	}
}

// begun is for a statement that begins with a call or an index.
func (p *parser) begun(s *api.Stmt, first part) {
	if first.expr.Kind == api.ExprCall {
		s.Kind = api.StmtCall
		s.Kids = exprs(first)
		return
	}
	s.Kind = api.StmtPut
	p.need("=")
	s.Kids = exprs(first, p.expr())
}
