package interp

import (
	"errors"

	"distaff/api"
)

// walker runs a program a second time, by the chapter's words: it goes over the tree itself, with a map of variables for each call, and hands an end upwards as an error.
type walker struct {
	fns  []api.Fn
	in   []int64
	fuel int64
	out  api.Seen
	deep int64
}

// How a list of statements is left, if not at its end.
var (
	errBreak    = errors.New("break")
	errContinue = errors.New("continue")
	errReturn   = errors.New("return")
	errOver     = errors.New("the run is over")
)

// thing is rows of rows; a row of numbers is the only one.
type thing struct {
	rows [][]int64
	cols int64
}

// frame is a call's variables, numbers and things, and what it comes to.
type frame struct {
	vars map[int64]any
	come any
}

func secondRun(t api.Tree, in []int64, fuel int64) api.Seen {
	if fuel < 0 {
		fuel = 0
	}
	w := &walker{fns: t.Fns, in: in, fuel: fuel}
	for _, f := range t.Fns {
		if f.Name != "main" {
			continue
		}
		if come, err := w.call(f, nil); err == nil {
			w.out.End, w.out.Value = api.EndHalt, come.(int64)
		}
		return w.out
	}
	return api.Seen{End: api.EndStuck}
}

func (w *walker) take(n int64) error {
	if w.out.Used+n > w.fuel {
		w.out.Used, w.out.End = w.fuel, api.EndFuel
		return errOver
	}
	w.out.Used += n
	return nil
}

func (w *walker) trap(which int64) error {
	w.out.End, w.out.Value = api.EndTrap, which
	return errOver
}

func (w *walker) call(f api.Fn, args []any) (any, error) {
	if w.deep++; w.deep > w.out.Deep {
		w.out.Deep = w.deep
	}
	fr := &frame{vars: map[int64]any{}, come: int64(0)}
	for i, a := range args {
		fr.vars[int64(i)] = a
	}
	err := w.stmts(f.Body, fr)
	w.deep--
	if err == errOver {
		return nil, err
	}
	return fr.come, nil
}

func (w *walker) stmts(l []api.Stmt, fr *frame) error {
	for _, s := range l {
		if err := w.take(1); err != nil {
			return err
		}
		if err := w.stmt(s, fr); err != nil {
			return err
		}
	}
	return nil
}

func (w *walker) stmt(s api.Stmt, fr *frame) error {
	switch s.Kind {
	case api.StmtBreak:
		return errBreak
	case api.StmtContinue:
		return errContinue
	case api.StmtWhile:
		return w.while(s, fr)
	case api.StmtPut:
		return w.put(s, fr)
	}
	vals, err := w.exprs(s.Kids, fr)
	if err != nil {
		return err
	}
	switch s.Kind {
	case api.StmtVar, api.StmtSet:
		fr.vars[s.N] = vals[0]
	case api.StmtIf:
		if vals[0].(int64) != 0 {
			return w.stmts(s.Body, fr)
		}
		return w.stmts(s.Else, fr)
	case api.StmtFor:
		return w.count(s, fr, vals[0].(int64), vals[1].(int64))
	case api.StmtReturn:
		if len(vals) > 0 {
			fr.come = vals[0]
		}
		return errReturn
	case api.StmtPrint:
		w.out.Events = append(w.out.Events, vals[0].(int64))
	}
	return nil
}

func (w *walker) while(s api.Stmt, fr *frame) error {
	for {
		v, err := w.expr(s.Kids[0], fr)
		if err != nil {
			return err
		}
		if v.(int64) == 0 {
			return nil
		}
		if err := w.stmts(s.Body, fr); err == errBreak {
			return nil
		} else if err != nil && err != errContinue {
			return err
		}
		if err := w.take(1); err != nil {
			return err
		}
	}
}

func (w *walker) count(s api.Stmt, fr *frame, from, to int64) error {
	for i := from; s.Step > 0 && i < to || s.Step < 0 && i > to; i += s.Step {
		fr.vars[s.N] = i
		if err := w.stmts(s.Body, fr); err == errBreak {
			return nil
		} else if err != nil && err != errContinue {
			return err
		}
		if err := w.take(1); err != nil {
			return err
		}
	}
	return nil
}

func (w *walker) put(s api.Stmt, fr *frame) error {
	vals, err := w.exprs(append(append([]api.Expr{}, s.Kids[0].Kids...), s.Kids[1]), fr)
	if err != nil {
		return err
	}
	cell, err := w.cell(vals[:len(vals)-1])
	if err == nil {
		*cell = vals[len(vals)-1].(int64)
	}
	return err
}

func (w *walker) cell(vals []any) (*int64, error) {
	th := vals[0].(thing)
	row, col := int64(0), vals[len(vals)-1].(int64)
	if len(vals) == 3 {
		row = vals[1].(int64)
	}
	if row < 0 || row >= int64(len(th.rows)) || col < 0 || col >= th.cols {
		return nil, w.trap(api.TrapIndex)
	}
	return &th.rows[row][col], nil
}

func (w *walker) exprs(l []api.Expr, fr *frame) ([]any, error) {
	var vals []any
	for _, e := range l {
		v, err := w.expr(e, fr)
		if err != nil {
			return nil, err
		}
		vals = append(vals, v)
	}
	return vals, nil
}

func (w *walker) expr(e api.Expr, fr *frame) (any, error) {
	if err := w.take(1); err != nil {
		return nil, err
	}
	switch e.Kind {
	case api.ExprName:
		return fr.vars[e.N], nil
	case api.ExprAnd, api.ExprOr:
		first, err := w.expr(e.Kids[0], fr)
		if err != nil || (first.(int64) == 1) == (e.Kind == api.ExprOr) {
			return first, err
		}
		return w.expr(e.Kids[1], fr)
	}
	vals, err := w.exprs(e.Kids, fr)
	if err != nil {
		return nil, err
	}
	switch e.Kind {
	case api.ExprCall:
		return w.call(w.fns[e.N], vals)
	case api.ExprIndex:
		cell, err := w.cell(vals)
		if err != nil {
			return nil, err
		}
		return *cell, nil
	case api.ExprNew:
		return w.create(vals)
	case api.ExprRows:
		return int64(len(vals[0].(thing).rows)), nil
	case api.ExprLen, api.ExprCols:
		return vals[0].(thing).cols, nil
	}
	return w.number(e, vals)
}

// number is an expression of numbers and truths.
func (w *walker) number(e api.Expr, vals []any) (any, error) {
	switch e.Kind {
	case api.ExprInt, api.ExprBool:
		return e.N, nil
	case api.ExprInput:
		if len(w.in) == 0 {
			return nil, w.trap(api.TrapInput)
		}
		n := w.in[0]
		w.in = w.in[1:]
		return n, nil
	case api.ExprUnary:
		return one(e.Op, vals[0].(int64)), nil
	}
	a, b := vals[0].(int64), vals[1].(int64)
	if b == 0 && (e.Op == api.OpDiv || e.Op == api.OpRem) {
		return nil, w.trap(api.TrapDivide)
	}
	return two(e.Op, a, b), nil
}

func (w *walker) create(vals []any) (any, error) {
	n, m := int64(1), vals[len(vals)-1].(int64)
	if len(vals) == 2 {
		n = vals[0].(int64)
	}
	if n < 0 || m < 0 || n > 65536 || m > 65536 || n*m > 65536 {
		return nil, w.trap(api.TrapLength)
	}
	if err := w.take(n * m); err != nil {
		return nil, err
	}
	w.out.Cells += n * m
	w.out.Rows++
	th := thing{cols: m}
	for range n {
		th.rows = append(th.rows, make([]int64, m))
	}
	return th, nil
}

func one(op int, a int64) int64 {
	switch op {
	case api.OpNeg:
		return 0 - a
	case api.OpNot:
		return -1 - a
	}
	return 1 - a
}

func two(op int, a, b int64) int64 {
	switch op {
	case api.OpAdd:
		return a + b
	case api.OpSub:
		return a - b
	case api.OpMul:
		return a * b
	case api.OpDiv:
		return a / b
	case api.OpRem:
		return a % b
	case api.OpAnd:
		return a & b
	case api.OpOr:
		return a | b
	case api.OpXor:
		return a ^ b
	case api.OpShl:
		return a << uint(b&63)
	case api.OpShr:
		return a >> uint(b&63)
	case api.OpUshr:
		return int64(uint64(a) >> uint(b&63))
	}
	so := map[int]bool{api.OpEq: a == b, api.OpNe: a != b, api.OpLt: a < b, api.OpLe: a <= b, api.OpGt: a > b, api.OpGe: a >= b}
	if so[op] {
		return 1
	}
	return 0
}
