package check

import (
	"math/rand"
	"reflect"
	"testing"

	"distaff/api"
	"distaff/tree"
)

// maker makes programs without a fault by chance, with all that is known of them.
type maker struct {
	*rand.Rand
	fns    []api.Fn
	blocks [][]known
	vars   int
	loops  int
	ret    int
}

// known is a variable as the maker made it.
type known struct {
	name  string
	n     int
	kind  int
	fixed bool
}

func pick[T any](m *maker, l ...T) T { return l[m.Intn(len(l))] }

func (m *maker) name() string { return pick(m, "a", "b", "c", "d", "f", "main") }

// seen are the variables that names stand for.
func (m *maker) seen() []known {
	var l []known
	names := map[string]int{}
	for i := len(m.blocks) - 1; i >= 0; i-- {
		for _, k := range m.blocks[i] {
			names[k.name]++
			if names[k.name] == 1 {
				l = append(l, k)
			}
		}
	}
	return l
}

// some is a variable that is seen, of a type.
func (m *maker) some(kind int) (known, bool) {
	var l []known
	for _, k := range m.seen() {
		if k.kind == kind {
			l = append(l, k)
		}
	}
	if len(l) == 0 {
		return known{}, false
	}
	return pick(m, l...), true
}

// add makes a variable of a name that the innermost block has not.
func (m *maker) add(kind int, fixed bool) (known, bool) {
	last := len(m.blocks) - 1
	k := known{name: m.name(), n: m.vars, kind: kind, fixed: fixed}
	for _, other := range m.blocks[last] {
		if other.name == k.name {
			return known{}, false
		}
	}
	m.vars++
	m.blocks[last] = append(m.blocks[last], k)
	return k, true
}

// expr is an expression of a type.
func (m *maker) expr(kind, size int) api.Expr {
	if k, ok := m.some(kind); ok && m.Intn(3) == 0 {
		return api.Expr{Kind: api.ExprName, Type: kind, S: k.name, N: int64(k.n)}
	}
	if size > 0 && m.Intn(4) == 0 {
		if e, ok := m.call(kind, size); ok {
			return e
		}
	}
	e := api.Expr{Type: kind}
	switch kind {
	case api.TypeInt:
		m.number(&e, size)
	case api.TypeBool:
		m.truth(&e, size)
	case api.TypeArr:
		e.Kind, e.Kids = api.ExprNew, m.exprs(size, api.TypeInt)
	case api.TypeMat:
		e.Kind, e.Kids = api.ExprNew, m.exprs(size, api.TypeInt, api.TypeInt)
	}
	return e
}

func (m *maker) exprs(size int, kinds ...int) []api.Expr {
	var l []api.Expr
	for _, k := range kinds {
		l = append(l, m.expr(k, size-1))
	}
	return l
}

func (m *maker) call(kind, size int) (api.Expr, bool) {
	for _, i := range m.Perm(len(m.fns)) {
		if f := m.fns[i]; f.Ret == kind {
			var kinds []int
			for _, a := range f.Params {
				kinds = append(kinds, a.Type)
			}
			return api.Expr{Kind: api.ExprCall, Type: kind, S: f.Name, N: int64(i), Kids: m.exprs(size, kinds...)}, true
		}
	}
	return api.Expr{}, false
}

func (m *maker) number(e *api.Expr, size int) {
	kind := pick(m, api.ExprUnary, api.ExprBinary, api.ExprIndex, api.ExprLen, api.ExprRows, api.ExprCols, api.ExprInt, api.ExprInput)
	if size <= 0 {
		kind = api.ExprInt
	}
	e.Kind = kind
	switch kind {
	case api.ExprInt:
		e.N = int64(m.Uint64())
	case api.ExprUnary:
		e.Op, e.Kids = pick(m, api.OpNeg, api.OpNot), m.exprs(size, api.TypeInt)
	case api.ExprBinary:
		e.Op, e.Kids = api.OpAdd+m.Intn(11), m.exprs(size, api.TypeInt, api.TypeInt)
	case api.ExprIndex:
		if e.Kids = m.exprs(size, api.TypeArr, api.TypeInt); m.Intn(2) == 0 {
			e.Kids = m.exprs(size, api.TypeMat, api.TypeInt, api.TypeInt)
		}
	case api.ExprLen:
		e.Kids = m.exprs(size, api.TypeArr)
	case api.ExprRows, api.ExprCols:
		e.Kids = m.exprs(size, api.TypeMat)
	}
}

func (m *maker) truth(e *api.Expr, size int) {
	kind := pick(m, api.ExprUnary, api.ExprBinary, api.ExprBinary, api.ExprAnd, api.ExprOr, api.ExprBool)
	if size <= 0 {
		kind = api.ExprBool
	}
	e.Kind = kind
	switch kind {
	case api.ExprBool:
		e.N = int64(m.Intn(2))
	case api.ExprUnary:
		e.Op, e.Kids = api.OpFlip, m.exprs(size, api.TypeBool)
	case api.ExprBinary:
		of := api.TypeInt
		if e.Op = api.OpEq + m.Intn(6); e.Op <= api.OpNe {
			of = pick(m, api.TypeInt, api.TypeBool)
		}
		e.Kids = m.exprs(size, of, of)
	case api.ExprAnd, api.ExprOr:
		e.Kids = m.exprs(size, api.TypeBool, api.TypeBool)
	}
}

// block is statements in a block of their own, and those that are to stand at its end.
func (m *maker) block(size int, end ...func() api.Stmt) []api.Stmt {
	m.blocks = append(m.blocks, nil)
	var l []api.Stmt
	for range m.Intn(5) {
		if s, ok := m.stmt(size - 1); ok {
			l = append(l, s)
		}
	}
	for _, last := range end {
		l = append(l, last())
	}
	m.blocks = m.blocks[:len(m.blocks)-1]
	return l
}

func (m *maker) stmt(size int) (api.Stmt, bool) {
	s := api.Stmt{Kind: 1 + m.Intn(11)}
	switch s.Kind {
	case api.StmtVar:
		e := m.expr(pick(m, 1, 2, 3, 4), 2)
		k, ok := m.add(e.Type, false)
		s.S, s.N, s.Kids = k.name, int64(k.n), []api.Expr{e}
		return s, ok
	case api.StmtSet:
		k, ok := m.some(pick(m, 1, 2, 3, 4))
		s.S, s.N, s.Kids = k.name, int64(k.n), []api.Expr{m.expr(k.kind, 2)}
		return s, ok && !k.fixed
	case api.StmtPut:
		return m.put(s)
	case api.StmtIf, api.StmtWhile, api.StmtFor:
		return m.around(s, size)
	case api.StmtBreak, api.StmtContinue:
		return s, m.loops > 0
	case api.StmtReturn:
		s.Kids = m.back()
	case api.StmtPrint:
		s.Kids = []api.Expr{m.expr(pick(m, 1, 2), 3)}
	case api.StmtCall:
		e, ok := m.call(pick(m, 0, 1, 2, 3, 4), 2)
		s.Kids = []api.Expr{e}
		return s, ok
	}
	return s, true
}

// put begins with a name: a text can begin with nothing else but a call there.
func (m *maker) put(s api.Stmt) (api.Stmt, bool) {
	k, ok := m.some(pick(m, api.TypeArr, api.TypeMat))
	kids := []api.Expr{{Kind: api.ExprName, Type: k.kind, S: k.name, N: int64(k.n)}, m.expr(api.TypeInt, 2)}
	if k.kind == api.TypeMat {
		kids = append(kids, m.expr(api.TypeInt, 2))
	}
	s.Kids = []api.Expr{{Kind: api.ExprIndex, Type: api.TypeInt, Kids: kids}, m.expr(api.TypeInt, 2)}
	return s, ok
}

func (m *maker) back() []api.Expr {
	if m.ret == api.TypeVoid {
		return nil
	}
	return []api.Expr{m.expr(m.ret, 2)}
}

func (m *maker) around(s api.Stmt, size int) (api.Stmt, bool) {
	if size <= 0 {
		return s, false
	}
	switch s.Kind {
	case api.StmtIf:
		s.Kids = []api.Expr{m.expr(api.TypeBool, 2)}
		s.Body = m.block(size)
		s.Else = m.block(size)
	case api.StmtWhile:
		s.Kids = []api.Expr{m.expr(api.TypeBool, 2)}
		s.Body = m.loop(size)
	case api.StmtFor:
		s.Kids = []api.Expr{m.expr(api.TypeInt, 2), m.expr(api.TypeInt, 2)}
		s.Step = pick(m, int64(1), -1, 3)
		m.blocks = append(m.blocks, nil)
		k, _ := m.add(api.TypeInt, true)
		s.S, s.N = k.name, int64(k.n)
		s.Body = m.loop(size)
		m.blocks = m.blocks[:len(m.blocks)-1]
	}
	return s, true
}

func (m *maker) loop(size int) []api.Stmt {
	m.loops++
	l := m.block(size)
	m.loops--
	return l
}

// ending is a statement by which a block ends.
func (m *maker) ending(size int) api.Stmt {
	if size == 0 || m.Intn(2) == 0 {
		return api.Stmt{Kind: api.StmtReturn, Kids: m.back()}
	}
	within := func() api.Stmt { return m.ending(size - 1) }
	s := api.Stmt{Kind: api.StmtIf, Kids: []api.Expr{m.expr(api.TypeBool, 2)}}
	s.Body = m.block(1, within)
	s.Else = m.block(1, within)
	return s
}

func (m *maker) program() api.Tree {
	m.fns = []api.Fn{{Name: "main", Ret: api.TypeInt}}
	for _, name := range []string{"a", "f", "g", "h"}[:m.Intn(5)] {
		f := api.Fn{Name: name, Ret: m.Intn(5)}
		for i := range m.Intn(4) {
			f.Params = append(f.Params, api.Param{Name: []string{"a", "c", "f"}[i], Type: 1 + m.Intn(4)})
		}
		m.fns = append(m.fns, f)
	}
	m.Shuffle(len(m.fns), func(i, j int) { m.fns[i], m.fns[j] = m.fns[j], m.fns[i] })
	var t api.Tree
	for _, f := range m.fns {
		t.Fns = append(t.Fns, m.fn(f))
	}
	return t
}

func (m *maker) fn(f api.Fn) api.Fn {
	m.ret, m.vars, m.blocks = f.Ret, len(f.Params), [][]known{nil}
	for i, a := range f.Params {
		m.blocks[0] = append(m.blocks[0], known{name: a.Name, n: i, kind: a.Type})
	}
	var end []func() api.Stmt
	if f.Ret != api.TypeVoid {
		end = append(end, func() api.Stmt { return m.ending(2) })
	}
	f.Body = m.block(4, end...)
	f.Vars = m.vars
	return f
}

// nowhere takes the places from a program.
func nowhere(p *api.Tree) {
	for i := range p.Fns {
		p.Fns[i].At = 0
		nowhereStmts(p.Fns[i].Body)
	}
}

func nowhereStmts(l []api.Stmt) {
	for i := range l {
		l[i].At = 0
		nowhereExprs(l[i].Kids)
		nowhereStmts(l[i].Body)
		nowhereStmts(l[i].Else)
	}
}

func nowhereExprs(l []api.Expr) {
	for i := range l {
		l[i].At = 0
		nowhereExprs(l[i].Kids)
	}
}

// Promise 5.1: of programs that were made by chance all is found as it was made.
func TestProgramsByChance(t *testing.T) {
	for seed := range int64(2000) {
		m := &maker{Rand: rand.New(rand.NewSource(seed))}
		want := m.program()
		text := tree.Print(want)
		got := checked(t, text)
		if fault := secondReading(parsed(t, text)); fault != (api.Fault{}) {
			t.Fatalf("the second reading: %v\n%s", fault, text)
		}
		nowhere(&got)
		if !reflect.DeepEqual(got, want) {
			t.Fatalf("%v, not %v:\n%s", got, want, text)
		}
	}
}
