package parse

import "distaff/api"

// Ranks of signs between two, from what binds most weakly.
const (
	rankNone    = 0
	rankOr      = 1
	rankAnd     = 2
	rankCompare = 3
	rankBits    = 4
	rankMask    = 5
	rankShift   = 6
	rankSum     = 7
	rankProduct = 8
)

// part is an expression, and how deep it is.
type part struct {
	expr api.Expr
	deep int
}

// exprs is always a list of its own.
func exprs(parts ...part) []api.Expr {
	var l []api.Expr
	for _, k := range parts {
		l = append(l, k.expr)
	}
	return l
}

// whole is an expression with its parts: they are done, so that it is known how deep it is.
func (p *parser) whole(e api.Expr, parts ...part) part {
	deep := 0
	for _, k := range parts {
		deep = max(deep, k.deep)
	}
	deep++
	if p.deep+deep > api.MostDeep {
		p.fail(api.FaultSize, e.At)
	}
	e.Kids = exprs(parts...)
	return part{expr: e, deep: deep}
}

// counted is a whole that has so many parts, and no other number of them.
func (p *parser) counted(least, most int, e api.Expr, parts ...part) part {
	if len(parts) < least || len(parts) > most {
		p.fail(api.FaultSyntax, e.At)
	}
	return p.whole(e, parts...)
}

// expr reads an expression.
func (p *parser) expr() part {
	return p.between(rankOr)
}

// between reads parts with signs between them, of a rank and of those that bind more.
func (p *parser) between(least int) part {
	left := p.ahead()
	for rank := rankOf(p.now().S); rank >= least; rank = rankOf(p.now().S) {
		sign := p.next()
		e := api.Expr{Kind: kindOf(rank), At: sign.At, Op: operation(sign.S)}
		left = p.whole(e, left, p.between(rank+1))
		if rank == rankCompare && rankOf(p.now().S) == rankCompare {
			p.refuse(p.now())
		}
	}
	return left
}

// ahead reads signs ahead of one, and that one.
func (p *parser) ahead() part {
	op := turning(p.now().S)
	if op == api.OpNone {
		return p.indexed(p.first())
	}
	e := api.Expr{Kind: api.ExprUnary, At: p.next().At, Op: op}
	p.enter()
	defer p.leave()
	return p.whole(e, p.ahead())
}

// indexed reads all that a part is indexed by.
func (p *parser) indexed(of part) part {
	for p.is("[") {
		e := api.Expr{Kind: api.ExprIndex, At: p.now().At}
		parts := append([]part{of}, p.parts("[", "]")...)
		of = p.counted(2, 3, e, parts...)
	}
	return of
}

// parts reads expressions in brackets.
func (p *parser) parts(open, end string) []part {
	var l []part
	p.list(open, end, func() { l = append(l, p.expr()) })
	return l
}

// first reads what an expression begins with, when no sign stands ahead.
func (p *parser) first() part {
	if p.is("(") {
		return p.bracketed()
	}
	word := p.next()
	switch word.Kind {
	case api.TokInt:
		return p.whole(api.Expr{Kind: api.ExprInt, At: word.At, N: word.N})
	case api.TokName:
		return p.called(word)
	}
	return p.kept(word)
}

// bracketed is what stands in the brackets: they are no expression of their own.
func (p *parser) bracketed() part {
	p.need("(")
	p.enter()
	defer p.leave()
	inner := p.expr()
	p.need(")")
	return inner
}

// called is a name that was read, or its call.
func (p *parser) called(name api.Token) part {
	e := api.Expr{Kind: api.ExprName, At: name.At, S: name.S}
	if !p.is("(") {
		return p.whole(e)
	}
	e.Kind = api.ExprCall
	return p.whole(e, p.parts("(", ")")...)
}

// kept is what begins with a kept name that was read.
func (p *parser) kept(word api.Token) part {
	e := api.Expr{At: word.At}
	switch word.S {
	case "true":
		e.Kind = api.ExprBool
		e.N = 1
	case "false":
		e.Kind = api.ExprBool
	case "input":
		e.Kind = api.ExprInput
	case "new":
		e.Kind = api.ExprNew
		return p.counted(1, 2, e, p.parts("[", "]")...)
	case "len", "rows", "cols":
		e.Kind = measure(word.S)
		return p.counted(1, 1, e, p.parts("(", ")")...)
	default:
		p.refuse(word)
	}
	return p.whole(e)
}

func measure(word string) int {
	switch word {
	case "len":
		return api.ExprLen
	case "rows":
		return api.ExprRows
	}
	return api.ExprCols
}

func rankOf(sign string) int {
	switch sign {
	case "||":
		return rankOr
	case "&&":
		return rankAnd
	case "==", "!=", "<", "<=", ">", ">=":
		return rankCompare
	case "|", "^":
		return rankBits
	case "&":
		return rankMask
	case "<<", ">>", ">>>":
		return rankShift
	case "+", "-":
		return rankSum
	case "*", "/", "%":
		return rankProduct
	}
	return rankNone
}

func kindOf(rank int) int {
	switch rank {
	case rankOr:
		return api.ExprOr
	case rankAnd:
		return api.ExprAnd
	}
	return api.ExprBinary
}

// operation is what a sign between two says; OpNone of && and ||, which are kinds of their own.
func operation(sign string) int {
	switch sign {
	case "|":
		return api.OpOr
	case "^":
		return api.OpXor
	case "&":
		return api.OpAnd
	case "<<":
		return api.OpShl
	case ">>":
		return api.OpShr
	case ">>>":
		return api.OpUshr
	case "+":
		return api.OpAdd
	case "-":
		return api.OpSub
	case "*":
		return api.OpMul
	case "/":
		return api.OpDiv
	case "%":
		return api.OpRem
	}
	return comparison(sign)
}

func comparison(sign string) int {
	switch sign {
	case "==":
		return api.OpEq
	case "!=":
		return api.OpNe
	case "<":
		return api.OpLt
	case "<=":
		return api.OpLe
	case ">":
		return api.OpGt
	case ">=":
		return api.OpGe
	}
	return api.OpNone
}

// turning is what a sign ahead of one says; OpNone: it is no such sign.
func turning(sign string) int {
	switch sign {
	case "-":
		return api.OpNeg
	case "~":
		return api.OpNot
	case "!":
		return api.OpFlip
	}
	return api.OpNone
}
