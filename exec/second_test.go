package exec

import (
	"math/rand"
	"slices"
	"testing"

	"distaff/api"
	"distaff/arith"
)

// second is a second reading of the chapter: each call is one of Go, with a map of what its instructions came to.
type second struct {
	p    api.Prog
	in   []int64
	left int64
	seen api.Seen
	done map[int]int // how often each operation was done
	deep int
	most int
}

// thing is a number, or rows.
type thing struct {
	n          int64
	cells      []int64
	rows, cols int64
}

// over is what a run is ended with.
type over struct {
	end   int
	value int64
}

func (s *second) run(fuel int64) (out api.Seen) {
	s.left = fuel
	defer func() {
		e := recover().(over)
		out = s.seen
		out.End, out.Value, out.Used = e.end, e.value, fuel-s.left
	}()
	v := s.call(s.p.Main, nil)
	panic(over{api.EndHalt, v.n})
}

func (s *second) pay(fuel int64) {
	if s.left < fuel {
		s.left = 0
		panic(over{api.EndFuel, 0})
	}
	s.left -= fuel
}

func (s *second) call(which int, args []thing) thing {
	s.deep++
	s.most = max(s.most, s.deep)
	defer func() { s.deep-- }()
	f := s.p.Funcs[which]
	is := map[int]thing{}
	from, b := -1, 0
	for {
		k := f.Blocks[b]
		taken := map[int]thing{}
		for _, id := range k.List {
			if x := f.Ins[id]; x.Op == api.OpPhi {
				taken[id] = is[x.Args[slices.Index(k.Preds, from)]]
			}
		}
		for _, id := range k.List {
			s.pay(1)
			x := f.Ins[id]
			s.done[x.Op]++
			var of []thing
			for _, a := range x.Args {
				of = append(of, is[a])
			}
			if x.Op == api.OpPhi {
				is[id] = taken[id]
			} else if x.Op == api.OpParam {
				is[id] = args[x.N]
			} else {
				is[id] = s.ins(x, of)
			}
		}
		s.pay(1)
		from = b
		switch k.Term.Kind {
		case api.TermRet:
			return is[k.Term.Arg]
		case api.TermJump:
			b = k.Term.To[0]
		default:
			b = k.Term.To[1-is[k.Term.Arg].n]
		}
	}
}

// ins is what an instruction comes to.
func (s *second) ins(x api.Ins, of []thing) thing {
	switch x.Op {
	case api.OpConst:
		return thing{n: x.N}
	case api.OpSelect:
		return of[2-of[0].n]
	case api.OpLen, api.OpRows:
		return thing{n: of[0].rows}
	case api.OpCols:
		return thing{n: of[0].cols}
	case api.OpNew:
		return s.create(of[0].n, 1)
	case api.OpNew2:
		return s.create(of[0].n, of[1].n)
	case api.OpLoad, api.OpStore:
		if of[1].n < 0 || of[1].n >= of[0].rows*of[0].cols {
			panic(over{api.EndStuck, 0})
		}
		if x.Op == api.OpLoad {
			return thing{n: of[0].cells[of[1].n]}
		}
		of[0].cells[of[1].n] = of[2].n
		return thing{}
	case api.OpPrint:
		s.seen.Events = append(s.seen.Events, of[0].n)
		return thing{}
	case api.OpInput:
		if len(s.in) == 0 {
			panic(over{api.EndTrap, 4})
		}
		n := s.in[0]
		s.in = s.in[1:]
		return thing{n: n}
	case api.OpGuard:
		if of[0].n == 0 {
			panic(over{api.EndTrap, x.N})
		}
		return thing{}
	case api.OpCall:
		return s.call(x.To, of)
	}
	if len(of) == 1 {
		n, _ := arith.One(x.Op, of[0].n)
		return thing{n: n}
	}
	n, ok := arith.Do(x.Op, of[0].n, of[1].n)
	if !ok {
		panic(over{api.EndStuck, 0})
	}
	return thing{n: n}
}

func (s *second) create(rows, cols int64) thing {
	most := int64(65536)
	if rows < 0 || cols < 0 || rows > most || cols > most || rows*cols > most {
		panic(over{api.EndStuck, 0})
	}
	s.pay(rows * cols)
	return thing{cells: make([]int64, rows*cols), rows: rows, cols: cols}
}

// maker makes sound programs by chance. Functions call any others, themselves, too.
type maker struct {
	r *rand.Rand
	p api.Prog
	f *api.Func
	n int // how many functions the one that is made stands behind Main, gone round
}

func (m *maker) program() api.Prog {
	m.p = api.Prog{Funcs: make([]api.Func, 1+m.r.Intn(5))}
	for n := range m.p.Funcs {
		f := &m.p.Funcs[n]
		f.Ret = m.r.Intn(5)
		for range m.r.Intn(4) {
			f.Params = append(f.Params, 1+m.r.Intn(4))
		}
	}
	m.p.Main = m.r.Intn(len(m.p.Funcs))
	m.p.Funcs[m.p.Main] = api.Func{Ret: api.TypeInt}
	for n := range m.p.Funcs {
		m.f = &m.p.Funcs[n]
		m.n = (n - m.p.Main + len(m.p.Funcs)) % len(m.p.Funcs)
		m.ways()
		m.fill()
	}
	return m.p
}

// without is the blocks that one comes to from the first one without entering one (-1: all).
func (m *maker) without(shut int) []bool {
	reached := make([]bool, len(m.f.Blocks))
	var enter func(b int)
	enter = func(b int) {
		if b == shut || reached[b] {
			return
		}
		reached[b] = true
		for _, to := range m.f.Blocks[b].Term.To {
			enter(to)
		}
	}
	enter(0)
	return reached
}

// ways makes blocks that are all reached, and their Preds in any order.
func (m *maker) ways() {
	for {
		m.f.Blocks = make([]api.Block, 1+m.r.Intn(7))
		for b := range m.f.Blocks {
			others := slices.DeleteFunc(m.r.Perm(len(m.f.Blocks)), func(to int) bool { return to == 0 })
			e := &m.f.Blocks[b].Term
			*e = ret(-1)
			if many := m.r.Intn(3); many > 0 && many <= len(others) {
				*e = api.Term{Kind: many, Arg: -1, To: others[:many]}
			}
		}
		if !slices.Contains(m.without(-1), false) {
			break
		}
	}
	for _, b := range m.r.Perm(len(m.f.Blocks)) {
		for _, to := range m.f.Blocks[b].Term.To {
			m.f.Blocks[to].Preds = append(m.f.Blocks[to].Preds, b)
		}
	}
}

// made is what is made at the end of a block, or (ahead) at its beginning.
func (m *maker) made(b int, ahead bool) []int {
	var made []int
	for o, k := range m.f.Blocks {
		if o == b && !ahead || o != b && !m.without(o)[b] {
			made = append(made, k.List...)
		}
	}
	return made
}

// fill puts instructions into all blocks: whatever stands over a block is filled ahead of it.
func (m *maker) fill() {
	many := make([]int, len(m.f.Blocks))
	for o := range m.f.Blocks {
		for b, reached := range m.without(o) {
			if !reached {
				many[b]++
			}
		}
	}
	order := m.r.Perm(len(m.f.Blocks))
	slices.SortStableFunc(order, func(a, b int) int { return many[a] - many[b] })
	for _, b := range order {
		m.block(b)
	}
	for b, k := range m.f.Blocks {
		for _, id := range k.List {
			if x := &m.f.Ins[id]; x.Op == api.OpPhi {
				for _, from := range k.Preds {
					x.Args = append(x.Args, m.some(m.made(from, false), x.Type))
				}
			}
		}
		e := &m.f.Blocks[b].Term
		if e.Kind == api.TermBranch {
			e.Arg = m.some(m.made(b, false), api.TypeBool)
		}
		if e.Kind == api.TermRet && m.f.Ret != 0 {
			e.Arg = m.some(m.made(b, false), m.f.Ret)
		}
	}
}

// some is one of what is made, of a type; mostly one of the last ones.
func (m *maker) some(made []int, is int) int {
	l := slices.DeleteFunc(slices.Clone(made), func(id int) bool { return m.f.Ins[id].Type != is })
	if m.r.Intn(3) > 0 {
		l = l[max(0, len(l)-3):]
	}
	return l[m.r.Intn(len(l))]
}

// block fills one block: the first one with something of each type, others with OpPhi whose Args are told later.
func (m *maker) block(b int) {
	k := &m.f.Blocks[b]
	made := m.made(b, true)
	add := func(x api.Ins) {
		made = append(made, len(m.f.Ins))
		k.List = append(k.List, len(m.f.Ins))
		m.f.Ins = append(m.f.Ins, x)
	}
	if b == 0 {
		for n, is := range m.f.Params {
			add(param(is, int64(n)))
		}
		add(number(int64(m.r.Intn(6))))
		add(number(int64(m.r.Intn(4))))
		add(truth(int64(m.r.Intn(2))))
		add(ins(api.OpNew, api.TypeArr, m.some(made, api.TypeInt)))
		add(ins(api.OpNew2, api.TypeMat, m.some(made, api.TypeInt), m.some(made, api.TypeInt)))
	} else {
		for range m.r.Intn(4) {
			add(ins(api.OpPhi, 1+m.r.Intn(4)))
		}
	}
	for range m.r.Intn(6) {
		add(m.one(made))
	}
}

// uses are of what types an operation is, where that isn't two ints, and to what it comes.
func (m *maker) uses(op int) (int, []int) {
	const i, b, a, mat = api.TypeInt, api.TypeBool, api.TypeArr, api.TypeMat
	any, rows := 1+m.r.Intn(4), 3+m.r.Intn(2)
	switch op {
	case api.OpConst, api.OpInput:
		return i, nil
	case api.OpNeg, api.OpNot:
		return i, list(i)
	case api.OpFlip:
		return b, list(b)
	case api.OpSelect:
		return any, list(b, any, any)
	case api.OpLen:
		return i, list(a)
	case api.OpRows, api.OpCols:
		return i, list(mat)
	case api.OpLoad:
		return i, list(rows, i)
	case api.OpStore:
		return 0, list(rows, i, i)
	case api.OpNew:
		return a, list(i)
	case api.OpNew2:
		return mat, list(i, i)
	case api.OpPrint:
		return 0, list(1 + m.r.Intn(2))
	case api.OpGuard:
		return 0, list(b)
	}
	if arith.Compares(op) {
		return b, list(i, i)
	}
	return i, list(i, i)
}

// one is any instruction but OpParam and OpPhi. Those that often end a run are rare.
func (m *maker) one(made []int) api.Ins {
	var x api.Ins
	for {
		x.Op = api.OpAdd + m.r.Intn(api.OpCall-api.OpAdd+9)
		if x.Op > api.OpCall+3 {
			x.Op = api.OpPrint
		} else if x.Op > api.OpCall && m.n < len(m.p.Funcs)-1 {
			x.Op = api.OpCall
		} else if x.Op > api.OpCall {
			continue
		}
		ends := x.Op == api.OpGuard || x.Op == api.OpInput || x.Op == api.OpDiv || x.Op == api.OpRem || x.Op == api.OpLoad || x.Op == api.OpStore
		if !ends || m.r.Intn(8) == 0 {
			break
		}
	}
	var types []int
	if x.Op == api.OpCall {
		x.To = m.callee()
		x.Type, types = m.p.Funcs[x.To].Ret, m.p.Funcs[x.To].Params
	} else {
		x.Type, types = m.uses(x.Op)
	}
	if x.Op == api.OpGuard {
		x.N = int64(1 + m.r.Intn(3))
	}
	for _, is := range types {
		x.Args = append(x.Args, m.some(made, is))
	}
	return x
}

// callee is mostly a function behind: else few calls would come to an end.
func (m *maker) callee() int {
	behind := len(m.p.Funcs) - 1 - m.n
	if behind == 0 || m.r.Intn(20) == 0 {
		return m.r.Intn(len(m.p.Funcs))
	}
	return (m.p.Main + m.n + 1 + m.r.Intn(behind)) % len(m.p.Funcs)
}

// Promise 11.1: of programs made by chance the same is seen as by the second reading, with fuel of any size; all ends and all operations are met often, and deep calls.
func TestByChance(t *testing.T) {
	r := rand.New(rand.NewSource(11))
	var ends [5]int
	var deep [4]int
	done := map[int]int{}
	for range 8000 {
		m := maker{r: r}
		p := m.program()
		in := make([]int64, r.Intn(8))
		for i := range in {
			in[i] = int64(r.Intn(5))
		}
		for _, fuel := range numbers(3000, int64(r.Intn(60))) {
			s := second{p: p, in: in, done: done}
			want := s.run(fuel)
			if got := Run(p, in, fuel); !same(got, want) {
				t.Fatalf("%+v, %v, %d: %+v, not %+v", p, in, fuel, got, want)
			}
			ends[want.End]++
			if want.End == api.EndHalt {
				deep[min(s.most, 4)-1]++
			}
		}
	}
	for op := api.OpConst; op <= api.OpCall; op++ {
		if done[op] < 100 {
			t.Errorf("%d was done %d times", op, done[op])
		}
	}
	t.Log(ends, deep, done)
	if min(ends[0], ends[1], ends[2], ends[4]) < 150 || min(deep[1], deep[2]) < 50 {
		t.Error("not enough was met")
	}
}

// Promise 11.1: with less fuel than a run takes, what it prints comes first in what it prints with more; with as much or more all is the same.
func TestEachFuel(t *testing.T) {
	r := rand.New(rand.NewSource(12))
	for range 300 {
		m := maker{r: r}
		p := m.program()
		whole := Run(p, numbers(1, 2, 3), 400)
		if whole.End == api.EndFuel {
			continue
		}
		sees(t, p, numbers(1, 2, 3), whole.Used+1, whole)
		sees(t, p, numbers(1, 2, 3), whole.Used, whole)
		last := 0
		for fuel := range whole.Used {
			got := Run(p, numbers(1, 2, 3), fuel)
			if got.End != api.EndFuel || got.Used != fuel || got.Value != 0 || len(got.Events) < last || !slices.Equal(got.Events, whole.Events[:len(got.Events)]) {
				t.Fatalf("%+v with %d: %+v, behind it %+v", p, fuel, got, whole)
			}
			last = len(got.Events)
		}
	}
}
