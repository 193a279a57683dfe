package lower

import (
	"distaff/api"
	"distaff/ir"
)

func (l *lowering) exprs(list []api.Expr) []int {
	var ids []int
	for _, x := range list {
		ids = append(ids, l.expr(x))
	}
	return ids
}

// expr is the instruction that an expression comes to.
func (l *lowering) expr(x api.Expr) int {
	switch x.Kind {
	case api.ExprInt, api.ExprBool:
		return l.number(x.Type, x.N)
	case api.ExprName:
		return l.vars.get(int(x.N))
	case api.ExprAnd, api.ExprOr:
		return l.short(x)
	}
	return l.whole(x, l.exprs(x.Kids))
}

// whole is what is done behind all kids.
func (l *lowering) whole(x api.Expr, kids []int) int {
	switch x.Kind {
	case api.ExprUnary:
		return l.do(x.Op, x.Type, kids...)
	case api.ExprBinary:
		if x.Op == api.OpDiv || x.Op == api.OpRem {
			l.divisor(kids[1])
		}
		return l.do(x.Op, x.Type, kids...)
	case api.ExprCall:
		return l.add(api.Ins{Op: api.OpCall, Type: x.Type, Args: kids, To: int(x.N)})
	case api.ExprIndex:
		return l.do(api.OpLoad, api.TypeInt, kids[0], l.cell(kids))
	case api.ExprNew:
		return l.rows(kids)
	case api.ExprLen:
		return l.do(api.OpLen, api.TypeInt, kids...)
	case api.ExprRows:
		return l.do(api.OpRows, api.TypeInt, kids...)
	case api.ExprCols:
		return l.do(api.OpCols, api.TypeInt, kids...)
	case api.ExprInput:
		return l.do(api.OpInput, api.TypeInt)
	}
	return none
}

// short is && or ||: a variable that is the first one, and then, if that does not tell, the second one. So no number is needed for what it is without the second one.
func (l *lowering) short(x api.Expr) int {
	own := l.vars.create()
	first := l.expr(x.Kids[0])
	l.vars.set(l.cur, own, first)
	second, join := l.block(), l.block()
	if x.Kind == api.ExprAnd {
		l.end(ir.Branch(first, second, join))
	} else {
		l.end(ir.Branch(first, join, second))
	}
	l.enter(second)
	id := l.expr(x.Kids[1])
	l.vars.set(l.cur, own, id)
	l.end(ir.Jump(join))
	l.enter(join, []int{own})
	return l.vars.get(own)
}

func (l *lowering) divisor(id int) {
	zero := l.number(api.TypeInt, 0)
	l.guard(l.do(api.OpNe, api.TypeBool, id, zero), api.TrapDivide)
}

// cell is the place among all cells of what is found by rows, and one or two numbers, once they are known to be there.
func (l *lowering) cell(by []int) int {
	if len(by) == 2 {
		l.index(by[1], l.do(api.OpLen, api.TypeInt, by[0]))
		return by[1]
	}
	l.index(by[1], l.do(api.OpRows, api.TypeInt, by[0]))
	cols := l.do(api.OpCols, api.TypeInt, by[0])
	l.index(by[2], cols)
	ahead := l.do(api.OpMul, api.TypeInt, by[1], cols)
	return l.do(api.OpAdd, api.TypeInt, ahead, by[2])
}

func (l *lowering) index(id, many int) {
	l.guard(l.do(api.OpUlt, api.TypeBool, id, many), api.TrapIndex)
}

// rows is new: both numbers are held against the limit ahead of their product, which might go round.
func (l *lowering) rows(numbers []int) int {
	above := l.number(api.TypeInt, api.MostCells+1)
	for _, id := range numbers {
		l.length(id, above)
	}
	if len(numbers) == 1 {
		return l.do(api.OpNew, api.TypeArr, numbers...)
	}
	l.length(l.do(api.OpMul, api.TypeInt, numbers...), above)
	return l.do(api.OpNew2, api.TypeMat, numbers...)
}

func (l *lowering) length(id, above int) {
	l.guard(l.do(api.OpUlt, api.TypeBool, id, above), api.TrapLength)
}
