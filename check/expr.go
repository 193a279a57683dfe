package check

import (
	"slices"
	"strings"

	"distaff/api"
)

// exprs are expressions with all that is known of them. Each of them is of one of the types that may be: that is asked ahead of the next one.
func (c *checker) exprs(l []api.Expr, may ...int) []api.Expr {
	var out []api.Expr
	for _, e := range l {
		out = append(out, c.expr(e, may...))
	}
	return out
}

func (c *checker) expr(e api.Expr, may ...int) api.Expr {
	e.S = strings.Clone(e.S)
	c.whole(&e)
	if !slices.Contains(may, e.Type) {
		c.fail(api.FaultType, e.At)
	}
	return e
}

// whole finds the type of an expression, its parts first.
func (c *checker) whole(e *api.Expr) {
	switch e.Kind {
	case api.ExprInt, api.ExprInput:
		e.Type = api.TypeInt
	case api.ExprBool:
		e.Type = api.TypeBool
	case api.ExprName:
		c.name(e)
	case api.ExprUnary:
		e.Type = turned(e.Op)
		e.Kids = c.exprs(e.Kids, e.Type)
	case api.ExprBinary:
		c.between(e)
	case api.ExprAnd, api.ExprOr:
		e.Type = api.TypeBool
		e.Kids = c.exprs(e.Kids, api.TypeBool)
	case api.ExprCall:
		c.call(e)
	case api.ExprIndex:
		e.Type = api.TypeInt
		of := rowsOf(len(e.Kids) - 1)
		e.Kids = append(c.exprs(e.Kids[:1], of), c.exprs(e.Kids[1:], api.TypeInt)...)
	case api.ExprNew:
		e.Type = rowsOf(len(e.Kids))
		e.Kids = c.exprs(e.Kids, api.TypeInt)
	case api.ExprLen:
		e.Type = api.TypeInt
		e.Kids = c.exprs(e.Kids, api.TypeArr)
	case api.ExprRows, api.ExprCols:
		e.Type = api.TypeInt
		e.Kids = c.exprs(e.Kids, api.TypeMat)
	}
}

func (c *checker) name(e *api.Expr) {
	v, ok := c.names.find(e.S)
	if !ok {
		c.fail(api.FaultType, e.At)
	}
	e.Type, e.N = v.kind, v.n
}

// turned is the type of what a sign ahead of one comes to, and of that one.
func turned(op int) int {
	if op == api.OpFlip {
		return api.TypeBool
	}
	return api.TypeInt
}

func (c *checker) between(e *api.Expr) {
	switch e.Op {
	case api.OpEq, api.OpNe:
		e.Type = api.TypeBool
		// What the first one is, the second one must be.
		first := c.expr(e.Kids[0], api.TypeInt, api.TypeBool)
		e.Kids = append([]api.Expr{first}, c.exprs(e.Kids[1:], first.Type)...)
		return
	case api.OpLt, api.OpLe, api.OpGt, api.OpGe:
		e.Type = api.TypeBool
	default:
		e.Type = api.TypeInt
	}
	e.Kids = c.exprs(e.Kids, api.TypeInt)
}

// call asks for the function and the number of expressions first: the name stands ahead of them.
func (c *checker) call(e *api.Expr) {
	which, ok := c.which[e.S]
	if !ok || len(e.Kids) != len(c.fns[which].Params) {
		c.fail(api.FaultType, e.At)
		e.Kids = nil
		return
	}
	f := c.fns[which]
	var kids []api.Expr
	for i, a := range f.Params {
		kids = append(kids, c.expr(e.Kids[i], a.Type))
	}
	e.Type, e.N, e.Kids = f.Ret, int64(which), kids
}

// rowsOf is the type of what has so many numbers for each cell.
func rowsOf(numbers int) int {
	if numbers == 1 {
		return api.TypeArr
	}
	return api.TypeMat
}
