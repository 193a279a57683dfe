package lower

import (
	"maps"
	"slices"
	"testing"

	"distaff/api"
	"distaff/ir"
)

// kind is all that an instruction is, apart from what it uses.
type kind struct {
	op, typ int
	n       int64
	to      int
}

// counter is a second reading of the chapter: which instructions a function comes to, and how many of each, found by going over its tree alone. OpPhi are not told.
type counter struct {
	many  map[kind]int
	again []bool // of each loop around, whether a round's end is reached
}

func (c *counter) note(op, typ int, n int64) {
	c.many[kind{op, typ, n, 0}]++
}

func secondCount(f api.Fn) map[kind]int {
	c := &counter{many: map[kind]int{}}
	for i, a := range f.Params {
		c.note(api.OpParam, a.Type, int64(i))
	}
	c.block(f.Body)
	return c.many
}

// block tells whether the end of a block is reached.
func (c *counter) block(list []api.Stmt) bool {
	for _, s := range list {
		if !c.stmt(s) {
			return false
		}
	}
	return true
}

func (c *counter) stmt(s api.Stmt) bool {
	kids := s.Kids
	if s.Kind == api.StmtPut {
		kids = append(slices.Clone(s.Kids[0].Kids), s.Kids[1])
	}
	for _, x := range kids {
		c.expr(x)
	}
	switch s.Kind {
	case api.StmtPut:
		c.cell(len(s.Kids[0].Kids))
		c.note(api.OpStore, api.TypeVoid, 0)
	case api.StmtPrint:
		c.note(api.OpPrint, api.TypeVoid, 0)
	case api.StmtIf:
		yes, no := c.block(s.Body), c.block(s.Else)
		return yes || no
	case api.StmtWhile:
		c.loop(s.Body)
	case api.StmtFor:
		if s.Step > 0 {
			c.note(api.OpLt, api.TypeBool, 0)
		} else {
			c.note(api.OpGt, api.TypeBool, 0)
		}
		if c.loop(s.Body) {
			c.note(api.OpConst, api.TypeInt, s.Step)
			c.note(api.OpAdd, api.TypeInt, 0)
		}
	case api.StmtContinue:
		c.again[len(c.again)-1] = true
		return false
	case api.StmtBreak, api.StmtReturn:
		return false
	}
	return true
}

// loop tells whether a round of a loop comes to its end.
func (c *counter) loop(list []api.Stmt) bool {
	c.again = append(c.again, false)
	last := len(c.again) - 1
	again := c.block(list)
	again = again || c.again[last]
	c.again = c.again[:last]
	return again
}

func (c *counter) guard(op int, trap int64) {
	c.note(op, api.TypeBool, 0)
	c.note(api.OpGuard, api.TypeVoid, trap)
}

func (c *counter) cell(by int) {
	if by == 2 {
		c.note(api.OpLen, api.TypeInt, 0)
		c.guard(api.OpUlt, api.TrapIndex)
		return
	}
	for _, op := range []int{api.OpRows, api.OpCols, api.OpMul, api.OpAdd} {
		c.note(op, api.TypeInt, 0)
	}
	c.guard(api.OpUlt, api.TrapIndex)
	c.guard(api.OpUlt, api.TrapIndex)
}

func (c *counter) expr(x api.Expr) {
	for _, k := range x.Kids {
		c.expr(k)
	}
	switch x.Kind {
	case api.ExprInt, api.ExprBool:
		c.note(api.OpConst, x.Type, x.N)
	case api.ExprUnary, api.ExprBinary:
		if x.Op == api.OpDiv || x.Op == api.OpRem {
			c.note(api.OpConst, api.TypeInt, 0)
			c.guard(api.OpNe, api.TrapDivide)
		}
		c.note(x.Op, x.Type, 0)
	case api.ExprCall:
		c.many[kind{api.OpCall, x.Type, 0, int(x.N)}]++
	case api.ExprIndex:
		c.cell(len(x.Kids))
		c.note(api.OpLoad, api.TypeInt, 0)
	case api.ExprNew:
		c.note(api.OpConst, api.TypeInt, 65537)
		c.guard(api.OpUlt, api.TrapLength)
		if len(x.Kids) == 1 {
			c.note(api.OpNew, api.TypeArr, 0)
			return
		}
		c.guard(api.OpUlt, api.TrapLength)
		c.note(api.OpMul, api.TypeInt, 0)
		c.guard(api.OpUlt, api.TrapLength)
		c.note(api.OpNew2, api.TypeMat, 0)
	case api.ExprLen:
		c.note(api.OpLen, api.TypeInt, 0)
	case api.ExprRows:
		c.note(api.OpRows, api.TypeInt, 0)
	case api.ExprCols:
		c.note(api.OpCols, api.TypeInt, 0)
	case api.ExprInput:
		c.note(api.OpInput, api.TypeInt, 0)
	}
}

// counted holds the instructions of a function against the second reading.
func counted(t testing.TB, of api.Fn, f api.Func) {
	t.Helper()
	got := map[kind]int{}
	for _, x := range f.Ins {
		if x.Op != api.OpPhi {
			got[kind{x.Op, x.Type, x.N, x.To}]++
		}
	}
	if want := secondCount(of); !maps.Equal(got, want) {
		t.Fatalf("%v, not\n%v:\n%s", got, want, ir.Print(f))
	}
}
