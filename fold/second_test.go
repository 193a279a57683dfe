package fold

import (
	"math/rand"
	"slices"
	"testing"

	"distaff/api"
	"distaff/arith"
	"distaff/exec"
	"distaff/ir"
	"distaff/sound"
)

// second is a second reading of the chapter: one instruction after the other, by an Edit, till there is nothing to do.
func second(f api.Func) api.Func {
	e := ir.New(f)
	for again := true; again; {
		again = false
		for id, x := range e.F().Ins {
			by, gone, n, known := secondly(e.F(), id, x)
			if known {
				e.F().Ins[id] = api.Ins{Op: api.OpConst, Type: x.Type, N: n}
			}
			if gone {
				e.Replace(id, by)
				e.Drop(id)
			}
			again = again || known || gone
		}
	}
	return e.Done()
}

// secondly tells of an instruction whether it goes, by which other one, or what it comes to.
func secondly(f *api.Func, id int, x api.Ins) (by int, gone bool, n int64, known bool) {
	var of []int64
	for _, a := range x.Args {
		if f.Ins[a].Op == api.OpConst {
			of = append(of, f.Ins[a].N)
		}
	}
	all := len(of) == len(x.Args)
	switch {
	case x.Op == api.OpGuard:
		return -1, all && of[0] != 0, 0, false
	case x.Op == api.OpSelect:
		if c := f.Ins[x.Args[0]]; c.Op == api.OpConst {
			return x.Args[2-c.N], true, 0, false
		}
	case x.Op == api.OpPhi:
		others := slices.DeleteFunc(slices.Clone(x.Args), func(a int) bool { return a == id })
		slices.Sort(others)
		others = slices.Compact(others)
		return others[0], len(others) == 1, 0, false
	case arith.Unary(x.Op) && all:
		n, known = arith.One(x.Op, of[0])
	case arith.Binary(x.Op) && all:
		n, known = arith.Do(x.Op, of[0], of[1])
	}
	return 0, false, n, known
}

// maker makes sound programs by chance, of which much is known.
type maker struct {
	*rand.Rand
	p api.Prog
	f *api.Func
	n int
}

func (m *maker) program() api.Prog {
	m.p = api.Prog{Funcs: make([]api.Func, 1+m.Intn(3))}
	for n := range m.p.Funcs {
		f := &m.p.Funcs[n]
		f.Name, f.Ret = string(rune('a'+n)), m.Intn(5)
		for range m.Intn(3) {
			f.Params = append(f.Params, 1+m.Intn(4))
		}
	}
	m.p.Funcs[0] = api.Func{Name: "main", Ret: api.TypeInt}
	for m.n = range m.p.Funcs {
		m.f = &m.p.Funcs[m.n]
		m.ways()
		m.fill()
	}
	return m.p
}

// without is the blocks that one comes to from the first one without entering one (-1: all).
func (m *maker) without(shut int) []bool {
	reached := make([]bool, len(m.f.Blocks))
	var enter func(b int)
	enter = func(b int) {
		if b == shut || reached[b] {
			return
		}
		reached[b] = true
		for _, to := range m.f.Blocks[b].Term.To {
			enter(to)
		}
	}
	enter(0)
	return reached
}

// ways makes blocks that are all reached, and their Preds in any order.
func (m *maker) ways() {
	for {
		m.f.Blocks = make([]api.Block, 1+m.Intn(9))
		for b := range m.f.Blocks {
			others := slices.DeleteFunc(m.Perm(len(m.f.Blocks)), func(to int) bool { return to == 0 })
			e := &m.f.Blocks[b].Term
			*e = ir.Ret(-1)
			if many := min(2, m.Intn(4)); many > 0 && many <= len(others) {
				*e = api.Term{Kind: many, Arg: -1, To: others[:many]}
			}
		}
		if !slices.Contains(m.without(-1), false) {
			break
		}
	}
	for _, b := range m.Perm(len(m.f.Blocks)) {
		for _, to := range m.f.Blocks[b].Term.To {
			m.f.Blocks[to].Preds = append(m.f.Blocks[to].Preds, b)
		}
	}
}

// over tells of each two blocks whether the first one stands over the second one, or is it.
func (m *maker) over() [][]bool {
	over := make([][]bool, len(m.f.Blocks))
	for o := range over {
		over[o] = m.without(o)
		for b := range over[o] {
			over[o][b] = !over[o][b]
		}
	}
	return over
}

// fill puts instructions into all blocks: whatever stands over a block is filled ahead of it.
func (m *maker) fill() {
	over := m.over()
	made := func(b int, with bool) []int {
		var l []int
		for o, k := range m.f.Blocks {
			if over[o][b] && (with || o != b) {
				l = append(l, k.List...)
			}
		}
		return l
	}
	many := func(b int) (n int) {
		for o := range over {
			if over[o][b] {
				n++
			}
		}
		return n
	}
	order := m.Perm(len(over))
	slices.SortStableFunc(order, func(a, b int) int { return many(a) - many(b) })
	for _, b := range order {
		m.block(b, made(b, false))
	}
	for b, k := range m.f.Blocks {
		for _, id := range k.List {
			if m.f.Ins[id].Op == api.OpPhi {
				m.args(id, k.Preds, made)
			}
		}
		e := &m.f.Blocks[b].Term
		if e.Kind == api.TermBranch {
			e.Arg = m.some(made(b, true), api.TypeBool)
		}
		if e.Kind == api.TermRet && m.f.Ret != 0 {
			e.Arg = m.some(made(b, true), m.f.Ret)
		}
	}
}

// args tells an OpPhi's Args: often the same one, or itself, where that may be.
func (m *maker) args(id int, preds []int, made func(b int, with bool) []int) {
	x := &m.f.Ins[id]
	alike := m.Intn(3) > 0
	for _, from := range preds {
		l := made(from, true)
		a := m.some(l, x.Type)
		if alike && len(x.Args) > 0 && slices.Contains(l, x.Args[0]) {
			a = x.Args[0]
		}
		if alike && slices.Contains(l, id) && m.Intn(2) == 0 {
			a = id
		}
		x.Args = append(x.Args, a)
	}
}

// some is one of what is made, of a type; mostly one of the last ones.
func (m *maker) some(made []int, is int) int {
	l := slices.DeleteFunc(slices.Clone(made), func(id int) bool { return m.f.Ins[id].Type != is })
	if m.Intn(3) > 0 {
		l = l[max(0, len(l)-3):]
	}
	return l[m.Intn(len(l))]
}

// block fills one block: the first one with something of each type, others with OpPhi whose Args are told later.
func (m *maker) block(b int, made []int) {
	k := &m.f.Blocks[b]
	add := func(x api.Ins) {
		made = append(made, len(m.f.Ins))
		k.List = append(k.List, len(m.f.Ins))
		m.f.Ins = append(m.f.Ins, x)
	}
	if b == 0 {
		for n, is := range m.f.Params {
			add(param(is, int64(n)))
		}
		add(number(4))
		add(truth(int64(m.Intn(2))))
		add(ins(api.OpNew, api.TypeArr, m.some(made, api.TypeInt)))
		add(ins(api.OpNew2, api.TypeMat, m.some(made, api.TypeInt), m.some(made, api.TypeInt)))
	} else {
		for range m.Intn(5) {
			add(phi(1 + m.Intn(4)))
		}
	}
	for range m.Intn(9) {
		add(m.one(made))
	}
}

// one is any instruction but OpParam and OpPhi; what is often stuck, or a trap, is rare.
func (m *maker) one(made []int) api.Ins {
	switch n := m.Intn(12); {
	case n < 2:
		return number(int64(m.Intn(5)))
	case n == 2:
		return truth(int64(m.Intn(2)))
	case n == 3:
		return show(m.some(made, 1+m.Intn(2)))
	}
	for {
		x := api.Ins{Op: api.OpAdd + m.Intn(api.OpCall-api.OpAdd+4)}
		if x.Op > api.OpCall {
			x.Op = api.OpSelect
		}
		ends := x.Op == api.OpGuard || x.Op == api.OpInput || x.Op == api.OpDiv || x.Op == api.OpRem || x.Op == api.OpLoad || x.Op == api.OpStore
		if ends && m.Intn(4) > 0 || x.Op == api.OpCall && m.n == len(m.p.Funcs)-1 {
			continue
		}
		types := m.uses(&x)
		for _, is := range types {
			x.Args = append(x.Args, m.some(made, is))
		}
		return x
	}
}

// uses tells to what an instruction comes, and of what types it uses what.
func (m *maker) uses(x *api.Ins) []int {
	const i, b, a, mat = api.TypeInt, api.TypeBool, api.TypeArr, api.TypeMat
	any, rows := 1+m.Intn(4), 3+m.Intn(2)
	x.Type = i
	switch x.Op {
	case api.OpInput:
		return nil
	case api.OpNeg, api.OpNot:
		return list(i)
	case api.OpLen:
		return list(a)
	case api.OpRows, api.OpCols:
		return list(mat)
	case api.OpLoad:
		return list(rows, i)
	case api.OpFlip:
		x.Type = b
		return list(b)
	case api.OpSelect:
		x.Type = any
		return list(b, any, any)
	case api.OpNew:
		x.Type = a
		return list(i)
	case api.OpNew2:
		x.Type = mat
		return list(i, i)
	case api.OpStore:
		x.Type = 0
		return list(rows, i, i)
	case api.OpPrint:
		x.Type = 0
		return list(1 + m.Intn(2))
	case api.OpGuard:
		x.Type, x.N = 0, int64(1+m.Intn(3))
		return list(b)
	case api.OpCall:
		x.To = m.n + 1 + m.Intn(len(m.p.Funcs)-1-m.n)
		x.Type = m.p.Funcs[x.To].Ret
		return m.p.Funcs[x.To].Params
	}
	if arith.Compares(x.Op) {
		x.Type = b
		if two := 1 + m.Intn(2); x.Op <= api.OpNe {
			return list(two, two)
		}
	}
	return list(i, i)
}

// folded is a program all of whose functions are folded: as sound as it was.
func folded(t testing.TB, p api.Prog) api.Prog {
	t.Helper()
	q := api.Prog{Main: p.Main}
	for _, f := range p.Funcs {
		q.Funcs = append(q.Funcs, left(t, f))
	}
	if why, n := sound.Prog(q); why != api.FlawNone {
		t.Fatalf("flaw %d:\n%s\n%s", why, ir.Print(p.Funcs[n]), ir.Print(q.Funcs[n]))
	}
	return q
}

// same runs two programs: the same is seen of them, if the first one's run ends with so much fuel; else what it prints comes first.
func same(t testing.TB, p, q api.Prog, in []int64, fuel int64) api.Seen {
	t.Helper()
	is, got := exec.Run(p, in, fuel), exec.Run(q, in, fuel)
	begin := got.Events[:min(len(got.Events), len(is.Events))]
	ok := got.End == is.End && got.Value == is.Value && len(got.Events) == len(is.Events) && got.Used <= is.Used
	if !slices.Equal(begin, is.Events) || is.End != api.EndFuel && !ok {
		for n := range p.Funcs {
			t.Logf("%s\n%s", ir.Print(p.Funcs[n]), ir.Print(q.Funcs[n]))
		}
		t.Fatalf("%v: %+v, not %+v", in, got, is)
	}
	return is
}

// Promise 14.1: of programs made by chance the same comes as by the second reading, and they do the same, with less fuel.
func TestByChance(t *testing.T) {
	r := rand.New(rand.NewSource(14))
	ends, went, stayed := map[int]int{}, map[int]int{}, map[int]int{}
	for range 6000 {
		p := (&maker{Rand: r}).program()
		if why, n := sound.Prog(p); why != api.FlawNone {
			t.Fatalf("flaw %d: %s", why, ir.Print(p.Funcs[n]))
		}
		q := folded(t, p)
		for n, f := range q.Funcs {
			if is := second(p.Funcs[n]); !ir.Same(f, is) {
				t.Fatalf("of\n%sis\n%snot\n%s", ir.Print(p.Funcs[n]), ir.Print(f), ir.Print(is))
			}
			many := map[int]int{}
			for _, x := range p.Funcs[n].Ins {
				many[x.Op]++
			}
			for _, x := range f.Ins {
				many[x.Op]--
				stayed[x.Op]++
			}
			for op := api.OpPhi; op <= api.OpCall; op++ {
				went[op] += many[op]
			}
		}
		in := make([]int64, r.Intn(8))
		for i := range in {
			in[i] = int64(r.Intn(5))
		}
		ends[same(t, p, q, in, 2000).End]++
	}
	t.Log(ends, went, stayed)
	for op := api.OpPhi; op <= api.OpCall; op++ {
		goes := arith.Binary(op) || arith.Unary(op) || op == api.OpPhi || op == api.OpSelect || op == api.OpGuard
		if goes && went[op] < 100 || !goes && went[op] != 0 || stayed[op] < 100 {
			t.Errorf("%d went %d times, and stayed %d times", op, went[op], stayed[op])
		}
	}
	if min(ends[api.EndFuel], ends[api.EndHalt], ends[api.EndTrap], ends[api.EndStuck]) < 100 {
		t.Error("not enough was met", ends)
	}
}

// garbage makes a function by chance, of which nothing need be right.
func garbage(r *rand.Rand) api.Func {
	blocks, many := r.Intn(6), r.Intn(14)
	some := func(most, below int) []int {
		var l []int
		for range r.Intn(most + 1) {
			l = append(l, r.Intn(below+2)-1)
		}
		return l
	}
	f := api.Func{Name: "f", Params: some(3, 5), Ret: r.Intn(5)}
	for range many {
		x := api.Ins{Op: r.Intn(40), Type: r.Intn(5), Args: some(4, many), N: int64(r.Intn(9)), To: r.Intn(3)}
		switch r.Intn(6) {
		case 0, 1:
			x.Op = api.OpPhi
		case 2:
			x.Op = api.OpSelect
		case 3:
			x.Op = api.OpConst
		}
		f.Ins = append(f.Ins, x)
	}
	for range blocks {
		to := some(2, blocks)
		if r.Intn(4) > 0 {
			to = slices.DeleteFunc(to, func(b int) bool { return b < 0 || b >= blocks })
		}
		f.Blocks = append(f.Blocks, block(api.Term{Kind: r.Intn(4), Arg: r.Intn(many+2) - 1, To: to}, some(4, blocks), some(9, many)))
	}
	return f
}

// R1: no function is too wrong for the call; once is as good as twice, and what is handed in stays.
func TestGarbage(t *testing.T) {
	r := rand.New(rand.NewSource(15))
	for range 20000 {
		f := garbage(r)
		before := ir.Clone(f)
		got := Func(f)
		if !ir.Same(f, before) || !ir.Same(Func(f), got) {
			t.Fatalf("%s\n%s", ir.Print(before), ir.Print(got))
		}
		if again := Func(got); !ir.Same(again, got) {
			t.Fatalf("%s\n%s\n%s", ir.Print(f), ir.Print(got), ir.Print(again))
		}
	}
}
