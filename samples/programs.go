package samples

import (
	"slices"

	"distaff/api"
	"distaff/arith"
	"distaff/ir"
)

// Dice is chance, as it is handed over: a number below another one, and those below it in any order.
type Dice interface {
	Intn(below int) int
	Perm(many int) []int
}

// Program is a sound program made by chance, of which much is known.
func Program(d Dice) api.Prog {
	return (&maker{Dice: d}).program()
}

// maker makes sound programs by chance, of which much is known.
type maker struct {
	Dice
	p api.Prog
	f *api.Func
	n int
}

func (m *maker) program() api.Prog {
	m.p = api.Prog{Funcs: make([]api.Func, 1+m.Intn(3))}
	for n := range m.p.Funcs {
		f := &m.p.Funcs[n]
		f.Name, f.Ret = string(rune('a'+n)), m.Intn(5)
		for range m.Intn(3) {
			f.Params = append(f.Params, 1+m.Intn(4))
		}
	}
	m.p.Funcs[0] = api.Func{Name: "main", Ret: api.TypeInt}
	for m.n = range m.p.Funcs {
		m.f = &m.p.Funcs[m.n]
		m.ways()
		m.fill()
	}
	return m.p
}

// without is the blocks that one comes to from the first one without entering one (-1: all).
func (m *maker) without(shut int) []bool {
	reached := make([]bool, len(m.f.Blocks))
	var enter func(b int)
	enter = func(b int) {
		if b == shut || reached[b] {
			return
		}
		reached[b] = true
		for _, to := range m.f.Blocks[b].Term.To {
			enter(to)
		}
	}
	enter(0)
	return reached
}

// ways makes blocks that are all reached, and their Preds in any order.
func (m *maker) ways() {
	for {
		m.f.Blocks = make([]api.Block, 1+m.Intn(9))
		for b := range m.f.Blocks {
			others := slices.DeleteFunc(m.Perm(len(m.f.Blocks)), func(to int) bool { return to == 0 })
			e := &m.f.Blocks[b].Term
			*e = ir.Ret(-1)
			if many := min(2, m.Intn(4)); many > 0 && many <= len(others) {
				*e = api.Term{Kind: many, Arg: -1, To: others[:many]}
			}
		}
		if !slices.Contains(m.without(-1), false) {
			break
		}
	}
	for _, b := range m.Perm(len(m.f.Blocks)) {
		for _, to := range m.f.Blocks[b].Term.To {
			m.f.Blocks[to].Preds = append(m.f.Blocks[to].Preds, b)
		}
	}
}

// over tells of each two blocks whether the first one stands over the second one, or is it.
func (m *maker) over() [][]bool {
	over := make([][]bool, len(m.f.Blocks))
	for o := range over {
		over[o] = m.without(o)
		for b := range over[o] {
			over[o][b] = !over[o][b]
		}
	}
	return over
}

// fill puts instructions into all blocks: whatever stands over a block is filled ahead of it.
func (m *maker) fill() {
	over := m.over()
	made := func(b int, with bool) []int {
		var l []int
		for o, k := range m.f.Blocks {
			if over[o][b] && (with || o != b) {
				l = append(l, k.List...)
			}
		}
		return l
	}
	many := func(b int) (n int) {
		for o := range over {
			if over[o][b] {
				n++
			}
		}
		return n
	}
	order := m.Perm(len(over))
	slices.SortStableFunc(order, func(a, b int) int { return many(a) - many(b) })
	for _, b := range order {
		m.block(b, made(b, false))
	}
	for b, k := range m.f.Blocks {
		for _, id := range k.List {
			if m.f.Ins[id].Op == api.OpPhi {
				m.args(id, k.Preds, made)
			}
		}
		e := &m.f.Blocks[b].Term
		if e.Kind == api.TermBranch {
			e.Arg = m.some(made(b, true), api.TypeBool)
		}
		if e.Kind == api.TermRet && m.f.Ret != 0 {
			e.Arg = m.some(made(b, true), m.f.Ret)
		}
	}
}

// args tells an OpPhi's Args: often the same one, or itself, where that may be.
func (m *maker) args(id int, preds []int, made func(b int, with bool) []int) {
	x := &m.f.Ins[id]
	alike := m.Intn(3) > 0
	for _, from := range preds {
		l := made(from, true)
		a := m.some(l, x.Type)
		if alike && len(x.Args) > 0 && slices.Contains(l, x.Args[0]) {
			a = x.Args[0]
		}
		if alike && slices.Contains(l, id) && m.Intn(2) == 0 {
			a = id
		}
		x.Args = append(x.Args, a)
	}
}

// some is one of what is made, of a type; mostly one of the last ones.
func (m *maker) some(made []int, is int) int {
	l := slices.DeleteFunc(slices.Clone(made), func(id int) bool { return m.f.Ins[id].Type != is })
	if m.Intn(3) > 0 {
		l = l[max(0, len(l)-3):]
	}
	return l[m.Intn(len(l))]
}

// block fills one block: the first one with something of each type, others with OpPhi whose Args are told later.
func (m *maker) block(b int, made []int) {
	k := &m.f.Blocks[b]
	add := func(x api.Ins) {
		made = append(made, len(m.f.Ins))
		k.List = append(k.List, len(m.f.Ins))
		m.f.Ins = append(m.f.Ins, x)
	}
	if b == 0 {
		for n, is := range m.f.Params {
			add(Param(is, int64(n)))
		}
		add(Number(4))
		add(Truth(int64(m.Intn(2))))
		add(Ins(api.OpNew, api.TypeArr, m.some(made, api.TypeInt)))
		add(Ins(api.OpNew2, api.TypeMat, m.some(made, api.TypeInt), m.some(made, api.TypeInt)))
	} else {
		for range m.Intn(5) {
			add(Phi(1 + m.Intn(4)))
		}
	}
	for range m.Intn(9) {
		add(m.one(made))
	}
}

// one is any instruction but OpParam and OpPhi; what is often stuck, or a trap, is rare.
func (m *maker) one(made []int) api.Ins {
	switch n := m.Intn(12); {
	case n < 2:
		return Number(int64(m.Intn(5)))
	case n == 2:
		return Truth(int64(m.Intn(2)))
	case n == 3:
		return Show(m.some(made, 1+m.Intn(2)))
	}
	for {
		x := api.Ins{Op: api.OpAdd + m.Intn(api.OpCall-api.OpAdd+4)}
		if x.Op > api.OpCall {
			x.Op = api.OpSelect
		}
		ends := x.Op == api.OpGuard || x.Op == api.OpInput || x.Op == api.OpDiv || x.Op == api.OpRem || x.Op == api.OpLoad || x.Op == api.OpStore
		if ends && m.Intn(4) > 0 || x.Op == api.OpCall && m.n == len(m.p.Funcs)-1 {
			continue
		}
		types := m.uses(&x)
		for _, is := range types {
			x.Args = append(x.Args, m.some(made, is))
		}
		return x
	}
}

// uses tells to what an instruction comes, and of what types it uses what.
func (m *maker) uses(x *api.Ins) []int {
	const i, b, a, mat = api.TypeInt, api.TypeBool, api.TypeArr, api.TypeMat
	free, rows := 1+m.Intn(4), 3+m.Intn(2)
	x.Type = i
	switch x.Op {
	case api.OpInput:
		return nil
	case api.OpNeg, api.OpNot:
		return List(i)
	case api.OpLen:
		return List(a)
	case api.OpRows, api.OpCols:
		return List(mat)
	case api.OpLoad:
		return List(rows, i)
	case api.OpFlip:
		x.Type = b
		return List(b)
	case api.OpSelect:
		x.Type = free
		return List(b, free, free)
	case api.OpNew:
		x.Type = a
		return List(i)
	case api.OpNew2:
		x.Type = mat
		return List(i, i)
	case api.OpStore:
		x.Type = 0
		return List(rows, i, i)
	case api.OpPrint:
		x.Type = 0
		return List(1 + m.Intn(2))
	case api.OpGuard:
		x.Type, x.N = 0, int64(1+m.Intn(3))
		return List(b)
	case api.OpCall:
		x.To = m.n + 1 + m.Intn(len(m.p.Funcs)-1-m.n)
		x.Type = m.p.Funcs[x.To].Ret
		return m.p.Funcs[x.To].Params
	}
	if arith.Compares(x.Op) {
		x.Type = b
		if two := 1 + m.Intn(2); x.Op <= api.OpNe {
			return List(two, two)
		}
	}
	return List(i, i)
}
