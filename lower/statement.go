package lower

import (
	"distaff/api"
	"distaff/ir"
)

// statements leaves out what is not reached, and what nobody asks for behind too many instructions.
func (l *lowering) statements(list []api.Stmt) {
	for _, s := range list {
		if l.cur == none || l.full() {
			return
		}
		l.statement(s)
	}
}

func (l *lowering) statement(s api.Stmt) {
	switch s.Kind {
	case api.StmtVar, api.StmtSet:
		id := l.expr(s.Kids[0])
		l.vars.set(l.cur, int(s.N), id)
	case api.StmtPut:
		l.put(s)
	case api.StmtIf:
		l.choose(s)
	case api.StmtWhile:
		l.while(s)
	case api.StmtFor:
		l.count(s)
	case api.StmtBreak:
		l.end(ir.Jump(l.loops[len(l.loops)-1].exit))
	case api.StmtContinue:
		l.end(ir.Jump(l.loops[len(l.loops)-1].next))
	case api.StmtReturn:
		l.back(s)
	case api.StmtPrint:
		l.do(api.OpPrint, api.TypeVoid, l.expr(s.Kids[0]))
	case api.StmtCall:
		l.expr(s.Kids[0])
	}
}

// put looks whether the cell is there when what is put was reckoned.
func (l *lowering) put(s api.Stmt) {
	to := l.exprs(s.Kids[0].Kids)
	id := l.expr(s.Kids[1])
	cell := l.cell(to)
	l.do(api.OpStore, api.TypeVoid, to[0], cell, id)
}

func (l *lowering) back(s api.Stmt) {
	id := none
	if len(s.Kids) > 0 {
		id = l.expr(s.Kids[0])
	}
	l.end(ir.Ret(id))
}

func (l *lowering) choose(s api.Stmt) {
	body, other := changed(s.Body), changed(s.Else)
	so := l.expr(s.Kids[0])
	yes, no := l.block(), l.block()
	join := no
	if len(s.Else) > 0 {
		join = l.block()
	}
	l.end(ir.Branch(so, yes, no))
	l.enter(yes)
	l.statements(s.Body)
	l.end(ir.Jump(join))
	if no != join {
		l.enter(no, body)
		l.statements(s.Else)
		l.end(ir.Jump(join))
	}
	l.enter(join, body, other)
}

func (l *lowering) while(s api.Stmt) {
	set := changed(s.Body)
	head := l.block()
	l.end(ir.Jump(head))
	l.enter(head, set)
	so := l.expr(s.Kids[0])
	body, exit := l.block(), l.block()
	l.end(ir.Branch(so, body, exit))
	l.round(body, s.Body, loop{exit: exit, next: head})
	l.enter(exit, set)
}

// count is a loop whose variable is set where nobody else sets it: ahead of the head, and at the end of each round.
func (l *lowering) count(s api.Stmt) {
	set, own := changed(s.Body), int(s.N)
	from, to := l.expr(s.Kids[0]), l.expr(s.Kids[1])
	l.vars.set(l.cur, own, from)
	head, body, next, exit := l.block(), l.block(), l.block(), l.block()
	l.end(ir.Jump(head))
	l.enter(head, set, []int{own})
	test := api.OpLt
	if s.Step < 0 {
		test = api.OpGt
	}
	so := l.do(test, api.TypeBool, l.vars.get(own), to)
	l.end(ir.Branch(so, body, exit))
	l.round(body, s.Body, loop{exit: exit, next: next})
	if l.enter(next, set) {
		step := l.number(api.TypeInt, s.Step)
		l.vars.set(l.cur, own, l.do(api.OpAdd, api.TypeInt, l.vars.get(own), step))
		l.end(ir.Jump(head))
	}
	l.enter(exit, set)
}

// round is a loop's body, which goes on to the next round at its end.
func (l *lowering) round(body int, list []api.Stmt, around loop) {
	l.loops = append(l.loops, around)
	l.enter(body)
	l.statements(list)
	l.end(ir.Jump(around.next))
	l.loops = l.loops[:len(l.loops)-1]
}

// changed is which variables statements set, but those that they make: these are not there ahead of them.
func changed(list []api.Stmt) []int {
	var out []int
	var through func([]api.Stmt)
	through = func(list []api.Stmt) {
		for i := range list {
			s := &list[i]
			if s.Kind == api.StmtSet {
				out = append(out, int(s.N))
			}
			through(s.Body)
			through(s.Else)
		}
	}
	through(list)
	return out
}
