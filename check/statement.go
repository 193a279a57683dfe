package check

import (
	"strings"

	"distaff/api"
)

// block is statements with all that is known of them, in a block of their own.
func (c *checker) block(l []api.Stmt) []api.Stmt {
	c.names.enter()
	defer c.names.leave()
	var out []api.Stmt
	for _, s := range l {
		out = append(out, c.statement(s))
	}
	return out
}

func (c *checker) statement(s api.Stmt) api.Stmt {
	s.S = strings.Clone(s.S)
	switch s.Kind {
	case api.StmtVar:
		c.begin(&s)
	case api.StmtSet:
		c.set(&s)
	case api.StmtPut:
		s.Kids = c.exprs(s.Kids, api.TypeInt)
	case api.StmtIf:
		s.Kids = c.exprs(s.Kids, api.TypeBool)
		s.Body = c.block(s.Body)
		s.Else = c.block(s.Else)
	case api.StmtWhile:
		s.Kids = c.exprs(s.Kids, api.TypeBool)
		s.Body = c.loop(s.Body)
	case api.StmtFor:
		c.count(&s)
	case api.StmtBreak, api.StmtContinue:
		if c.loops == 0 {
			c.fail(api.FaultType, s.At)
		}
	case api.StmtReturn:
		c.back(&s)
	case api.StmtPrint:
		s.Kids = c.exprs(s.Kids, api.TypeInt, api.TypeBool)
	case api.StmtCall:
		s.Kids = c.exprs(s.Kids, api.TypeVoid, api.TypeInt, api.TypeBool, api.TypeArr, api.TypeMat)
	}
	return s
}

// begin makes a variable behind its expression: a name in that one stands for what it stood for till then.
func (c *checker) begin(s *api.Stmt) {
	s.Kids = c.exprs(s.Kids, api.TypeInt, api.TypeBool, api.TypeArr, api.TypeMat)
	s.N = c.create(s.S, variable{kind: s.Kids[0].Type}, s.At)
}

func (c *checker) set(s *api.Stmt) {
	v, ok := c.names.find(s.S)
	if !ok || v.fixed {
		c.fail(api.FaultType, s.At)
	}
	s.N = v.n
	s.Kids = c.exprs(s.Kids, v.kind)
}

func (c *checker) loop(l []api.Stmt) []api.Stmt {
	c.loops++
	defer func() { c.loops-- }()
	return c.block(l)
}

// count has the loop's variable in a block between what is around the loop and its body, which may have one of that name.
func (c *checker) count(s *api.Stmt) {
	s.Kids = c.exprs(s.Kids, api.TypeInt)
	c.names.enter()
	defer c.names.leave()
	s.N = c.create(s.S, variable{kind: api.TypeInt, fixed: true}, s.At)
	s.Body = c.loop(s.Body)
}

func (c *checker) back(s *api.Stmt) {
	if (len(s.Kids) > 0) != (c.ret != api.TypeVoid) {
		c.fail(api.FaultType, s.At)
	}
	s.Kids = c.exprs(s.Kids, c.ret)
}
