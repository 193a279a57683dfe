package check

import (
	"math/rand"
	"testing"

	"distaff/api"
	"distaff/parse"
	"distaff/tree"
)

// link is a variable, and those that were made ahead of it; block is the number of the block that it is in.
type link struct {
	name  string
	kind  int
	fixed bool
	block int
	ahead *link
}

func (l *link) find(name string) *link {
	for ; l != nil && l.name != name; l = l.ahead {
	}
	return l
}

// reader reads a program a second time, by the chapter's words: it stops at the first fault.
type reader struct {
	fns    []api.Fn
	ret    int
	vars   int
	blocks int
}

// secondReading is the first fault of a program.
func secondReading(t api.Tree) (fault api.Fault) {
	defer func() {
		switch x := recover().(type) {
		case nil:
		case api.Fault:
			fault = x
		default:
			panic(x)
		}
	}()
	r := &reader{fns: t.Fns}
	for i, f := range t.Fns {
		need(r.fn(f.Name) == i, f.At)
	}
	for _, f := range t.Fns {
		r.whole(f)
	}
	main := r.fn("main")
	need(main >= 0, 0)
	need(len(t.Fns[main].Params) == 0 && t.Fns[main].Ret == api.TypeInt, t.Fns[main].At)
	return
}

func need(so bool, at int) {
	if !so {
		panic(api.Fault{Kind: api.FaultType, At: at})
	}
}

// fn is the first function of a name; -1: there is none.
func (r *reader) fn(name string) int {
	for i, f := range r.fns {
		if f.Name == name {
			return i
		}
	}
	return -1
}

func (r *reader) whole(f api.Fn) {
	r.ret, r.vars, r.blocks = f.Ret, 0, 0
	var l *link
	for _, a := range f.Params {
		l = r.add(l, link{name: a.Name, kind: a.Type}, f.At)
	}
	r.block(f.Body, l, false)
	need(f.Ret == api.TypeVoid || done(f.Body), f.At)
}

func done(l []api.Stmt) bool {
	for i, s := range l {
		if i == len(l)-1 {
			return s.Kind == api.StmtReturn || s.Kind == api.StmtIf && done(s.Body) && done(s.Else)
		}
	}
	return false
}

func (r *reader) add(l *link, v link, at int) *link {
	other := l.find(v.name)
	need(other == nil || other.block != v.block, at)
	r.vars++
	if r.vars > 65536 {
		panic(api.Fault{Kind: api.FaultSize, At: at})
	}
	v.ahead = l
	return &v
}

func (r *reader) block(stmts []api.Stmt, l *link, loop bool) {
	r.blocks++
	block := r.blocks
	for _, s := range stmts {
		switch s.Kind {
		case api.StmtVar:
			kind := r.expr(s.Kids[0], l)
			need(kind != api.TypeVoid, s.Kids[0].At)
			l = r.add(l, link{name: s.S, kind: kind, block: block}, s.At)
		case api.StmtFor:
			r.is(api.TypeInt, s.Kids[0], l)
			r.is(api.TypeInt, s.Kids[1], l)
			r.blocks++
			r.block(s.Body, r.add(l, link{name: s.S, kind: api.TypeInt, fixed: true, block: r.blocks}, s.At), true)
		default:
			r.stmt(s, l, loop)
		}
	}
}

func (r *reader) stmt(s api.Stmt, l *link, loop bool) {
	switch s.Kind {
	case api.StmtSet:
		v := l.find(s.S)
		need(v != nil && !v.fixed, s.At)
		r.is(v.kind, s.Kids[0], l)
	case api.StmtPut:
		r.is(api.TypeInt, s.Kids[0], l)
		r.is(api.TypeInt, s.Kids[1], l)
	case api.StmtIf:
		r.is(api.TypeBool, s.Kids[0], l)
		r.block(s.Body, l, loop)
		r.block(s.Else, l, loop)
	case api.StmtWhile:
		r.is(api.TypeBool, s.Kids[0], l)
		r.block(s.Body, l, true)
	case api.StmtBreak, api.StmtContinue:
		need(loop, s.At)
	case api.StmtReturn:
		if r.ret == api.TypeVoid {
			need(len(s.Kids) == 0, s.At)
		} else {
			need(len(s.Kids) == 1, s.At)
			r.is(r.ret, s.Kids[0], l)
		}
	case api.StmtPrint:
		kind := r.expr(s.Kids[0], l)
		need(kind == api.TypeInt || kind == api.TypeBool, s.Kids[0].At)
	case api.StmtCall:
		r.expr(s.Kids[0], l)
	}
}

func (r *reader) is(kind int, e api.Expr, l *link) {
	need(r.expr(e, l) == kind, e.At)
}

// forms are what expressions are of: the first number is what they come to, the others what their parts are.
var forms = map[[2]int][]int{
	{api.ExprUnary, api.OpNeg}: {1, 1}, {api.ExprUnary, api.OpNot}: {1, 1}, {api.ExprUnary, api.OpFlip}: {2, 2},
	{api.ExprBinary, api.OpAdd}: {1, 1, 1}, {api.ExprBinary, api.OpSub}: {1, 1, 1}, {api.ExprBinary, api.OpMul}: {1, 1, 1}, {api.ExprBinary, api.OpDiv}: {1, 1, 1}, {api.ExprBinary, api.OpRem}: {1, 1, 1},
	{api.ExprBinary, api.OpAnd}: {1, 1, 1}, {api.ExprBinary, api.OpOr}: {1, 1, 1}, {api.ExprBinary, api.OpXor}: {1, 1, 1}, {api.ExprBinary, api.OpShl}: {1, 1, 1}, {api.ExprBinary, api.OpShr}: {1, 1, 1}, {api.ExprBinary, api.OpUshr}: {1, 1, 1},
	{api.ExprBinary, api.OpLt}: {2, 1, 1}, {api.ExprBinary, api.OpLe}: {2, 1, 1}, {api.ExprBinary, api.OpGt}: {2, 1, 1}, {api.ExprBinary, api.OpGe}: {2, 1, 1},
	{api.ExprInt}: {1}, {api.ExprBool}: {2}, {api.ExprInput}: {1}, {api.ExprAnd}: {2, 2, 2}, {api.ExprOr}: {2, 2, 2}, {api.ExprLen}: {1, 3}, {api.ExprRows}: {1, 4}, {api.ExprCols}: {1, 4},
}

func (r *reader) expr(e api.Expr, l *link) int {
	form := forms[[2]int{e.Kind, e.Op}]
	switch {
	case e.Kind == api.ExprName:
		v := l.find(e.S)
		need(v != nil, e.At)
		return v.kind
	case e.Kind == api.ExprCall:
		which := r.fn(e.S)
		need(which >= 0 && len(e.Kids) == len(r.fns[which].Params), e.At)
		form = []int{r.fns[which].Ret}
		for _, a := range r.fns[which].Params {
			form = append(form, a.Type)
		}
	case e.Kind == api.ExprIndex:
		form = map[int][]int{2: {1, 3, 1}, 3: {1, 4, 1, 1}}[len(e.Kids)]
	case e.Kind == api.ExprNew:
		form = map[int][]int{1: {3, 1}, 2: {4, 1, 1}}[len(e.Kids)]
	case e.Op == api.OpEq || e.Op == api.OpNe:
		first := r.expr(e.Kids[0], l)
		need(first == 1 || first == 2, e.Kids[0].At)
		r.is(first, e.Kids[1], l)
		return api.TypeBool
	}
	for i, kind := range form[1:] {
		r.is(kind, e.Kids[i], l)
	}
	return form[0]
}

// Faults by chance: programs of which some parts were changed.

// spoiler changes one part of a program to one of another kind, name or type, or takes it away, or doubles it.
type spoiler struct {
	*maker
	left int // how many parts are gone by till then
}

func (p *spoiler) now() bool {
	p.left--
	return p.left == 0
}

func (p *spoiler) spoil(t *api.Tree) {
	for i := range t.Fns {
		f := &t.Fns[i]
		if p.now() {
			p.spoilFn(t, f)
			return
		}
		for j := range f.Params {
			if p.now() {
				f.Params[j] = api.Param{Name: p.name(), Type: 1 + p.Intn(4)}
			}
		}
		f.Body = p.spoilStmts(f.Body)
	}
}

func (p *spoiler) spoilFn(t *api.Tree, f *api.Fn) {
	switch p.Intn(5) {
	case 0:
		f.Name = pick(p.maker, "a", "f", "g", "main", "b")
	case 1:
		f.Ret = p.Intn(5)
	case 2:
		f.Params = append(f.Params, api.Param{Name: p.name(), Type: 1 + p.Intn(4)})
	case 3:
		f.Params = nil
	case 4:
		t.Fns = append(t.Fns, *f)
	}
}

func (p *spoiler) spoilStmts(l []api.Stmt) []api.Stmt {
	for i := range l {
		s := &l[i]
		if p.now() {
			return p.spoilStmt(l, i)
		}
		if begins := s.Kind == api.StmtPut || s.Kind == api.StmtCall; begins {
			// What these begin with may be nothing else.
			p.spoilExprs(s.Kids[0].Kids[:min(1, len(s.Kids[0].Kids))])
			p.spoilExprs(s.Kids[1:])
		} else {
			p.spoilExprs(s.Kids)
		}
		s.Body = p.spoilStmts(s.Body)
		s.Else = p.spoilStmts(s.Else)
	}
	return l
}

func (p *spoiler) spoilStmt(l []api.Stmt, i int) []api.Stmt {
	s := &l[i]
	switch p.Intn(5) {
	case 0:
		return append(l[:i:i], l[i+1:]...)
	case 1:
		return append(l[:i+1:i+1], l[i:]...)
	case 2:
		*s = api.Stmt{Kind: pick(p.maker, api.StmtBreak, api.StmtContinue, api.StmtReturn)}
	case 3:
		s.S = p.name()
	case 4:
		*s = api.Stmt{Kind: api.StmtReturn, Kids: []api.Expr{p.any()}}
	}
	return l
}

func (p *spoiler) spoilExprs(l []api.Expr) {
	for i := range l {
		e := &l[i]
		if p.now() {
			p.spoilExpr(e)
			return
		}
		p.spoilExprs(e.Kids)
	}
}

func (p *spoiler) spoilExpr(e *api.Expr) {
	switch {
	case e.Kind == api.ExprCall && p.Intn(2) == 0:
		e.Kids = append(e.Kids, p.any())
	case e.Kind == api.ExprBinary && p.Intn(2) == 0:
		e.Op = pick(p.maker, api.OpAdd, api.OpEq, api.OpNe, api.OpLt, api.OpGe)
	case e.S != "" && p.Intn(2) == 0:
		e.S = p.name()
	case len(e.Kids) > 1 && p.Intn(2) == 0:
		e.Kids[0], e.Kids[1] = e.Kids[1], e.Kids[0]
	default:
		*e = p.any()
	}
}

// any is an expression of any type, or of names that stand for something elsewhere.
func (p *spoiler) any() api.Expr {
	p.blocks = nil
	switch p.Intn(4) {
	case 0:
		return api.Expr{Kind: api.ExprName, S: p.name()}
	case 1:
		if e, ok := p.call(p.Intn(5), 1); ok {
			return e
		}
	}
	return p.expr(1+p.Intn(4), 2)
}

func TestFaultsByChance(t *testing.T) {
	kinds := map[int]int{}
	for seed := range int64(10000) {
		m := &maker{Rand: rand.New(rand.NewSource(seed))}
		p := m.program()
		for range 1 + m.Intn(3) {
			(&spoiler{m, 1 + m.Intn(60)}).spoil(&p)
		}
		text := tree.Print(p)
		given, fault := parse.Parse(text)
		if fault.Kind != api.FaultNone {
			continue
		}
		want := secondReading(given)
		kinds[want.Kind]++
		if got, fault := Check(given); fault != want || (fault.Kind == api.FaultNone) != (len(got.Fns) > 0) {
			t.Fatalf("%v, not %v:\n%s", fault, want, text)
		}
	}
	if kinds[api.FaultNone] < 500 || kinds[api.FaultType] < 2500 {
		t.Error(kinds)
	}
}
