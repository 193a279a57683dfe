package sound

import (
	"math/rand"
	"slices"
	"testing"

	"distaff/api"
)

// second is a second reading of the chapter: each flaw by itself, as its words stand.
type second struct {
	p api.Prog
	f api.Func
}

// flaw is the first flaw of a function that is there.
func (s second) flaw() int {
	for i, so := range []func() bool{s.shape, s.preds, s.list, s.reach, s.phi, s.types, s.dom} {
		if so() {
			return i + 1
		}
	}
	return 0
}

func (s second) shape() bool {
	for _, k := range s.f.Blocks {
		e := k.Term
		if e.Kind < 1 || e.Kind > 3 || len(e.To) != list(1, 2, 0)[e.Kind-1] {
			return true
		}
		seen := map[int]bool{}
		for _, to := range e.To {
			if to <= 0 || to >= len(s.f.Blocks) || seen[to] {
				return true
			}
			seen[to] = true
		}
		is := e.Arg >= 0 && e.Arg < len(s.f.Ins)
		if e.Kind == api.TermBranch || e.Kind == api.TermRet && s.f.Ret != 0 {
			if !is {
				return true
			}
		} else if e.Arg != -1 {
			return true
		}
	}
	return len(s.f.Blocks) == 0
}

func (s second) preds() bool {
	for b, k := range s.f.Blocks {
		var from []int
		for a, o := range s.f.Blocks {
			if slices.Contains(o.Term.To, b) {
				from = append(from, a)
			}
		}
		if !slices.Equal(slices.Sorted(slices.Values(k.Preds)), from) {
			return true
		}
	}
	return false
}

func (s second) list() bool {
	times := map[int]int{}
	for _, k := range s.f.Blocks {
		for _, id := range k.List {
			times[id]++
		}
	}
	for id, x := range s.f.Ins {
		if x.Op == 0 && times[id] != 0 || x.Op != 0 && times[id] != 1 {
			return true
		}
		delete(times, id)
	}
	return len(times) > 0
}

// without is the blocks that one comes to from the first one without entering one (-1: all).
func (s second) without(shut int) []bool {
	reached := make([]bool, len(s.f.Blocks))
	var enter func(b int)
	enter = func(b int) {
		if b == shut || reached[b] {
			return
		}
		reached[b] = true
		for _, to := range s.f.Blocks[b].Term.To {
			enter(to)
		}
	}
	enter(0)
	return reached
}

func (s second) reach() bool { return slices.Contains(s.without(-1), false) }

func (s second) phi() bool {
	for b, k := range s.f.Blocks {
		for at, id := range k.List {
			x := s.f.Ins[id]
			if x.Op < 1 || x.Op > 36 || x.Op == api.OpParam && b > 0 {
				return true
			}
			if x.Op == api.OpPhi {
				if len(x.Args) == 0 || len(x.Args) != len(k.Preds) {
					return true
				}
				for _, o := range k.List[:at] {
					if s.f.Ins[o].Op != api.OpPhi {
						return true
					}
				}
			}
		}
	}
	return false
}

func (s second) types() bool {
	for _, k := range s.f.Blocks {
		for _, id := range k.List {
			if !s.typed(s.f.Ins[id]) {
				return true
			}
		}
		if k.Term.Kind == api.TermBranch && s.f.Ins[k.Term.Arg].Type != api.TypeBool {
			return true
		}
		if k.Term.Kind == api.TermRet && s.f.Ret != 0 && s.f.Ins[k.Term.Arg].Type != s.f.Ret {
			return true
		}
	}
	return false
}

// typed holds an instruction against its signatures.
func (s second) typed(x api.Ins) bool {
	var have []int
	for _, a := range x.Args {
		if a < 0 || a >= len(s.f.Ins) || s.f.Ins[a].Op == 0 {
			return false
		}
		have = append(have, s.f.Ins[a].Type)
	}
	if x.To != 0 && x.Op != api.OpCall || x.N != 0 && x.Op != api.OpConst && x.Op != api.OpParam && x.Op != api.OpGuard {
		return false
	}
	switch x.Op {
	case api.OpParam:
		return len(have) == 0 && x.N >= 0 && x.N < int64(len(s.f.Params)) && s.f.Params[x.N] == x.Type
	case api.OpPhi:
		return x.Type != 0 && !slices.ContainsFunc(have, func(is int) bool { return is != x.Type })
	case api.OpCall:
		return x.To >= 0 && x.To < len(s.p.Funcs) && s.p.Funcs[x.To].Ret == x.Type && slices.Equal(s.p.Funcs[x.To].Params, have)
	}
	if x.Op == api.OpConst && x.Type == api.TypeBool && x.N>>1 != 0 || x.Op == api.OpGuard && (x.N < 1 || x.N > 3) {
		return false
	}
	for _, sign := range signatures(x.Op) {
		if y := fitting(x.Op, sign); y.Type == x.Type && slices.Equal(y.Args, have) {
			return true
		}
	}
	return false
}

func (s second) dom() bool {
	for b, k := range s.f.Blocks {
		// What is made on all ways to this block.
		made := s.madeAhead(b)
		for _, id := range k.List {
			for i, a := range s.f.Ins[id].Args {
				if s.f.Ins[id].Op == api.OpPhi {
					if !s.madeAt(k.Preds[i])[a] {
						return true
					}
				} else if !made[a] {
					return true
				}
			}
			made[id] = true
		}
		if e := k.Term; (e.Kind == api.TermBranch || e.Kind == api.TermRet && s.f.Ret != 0) && !made[e.Arg] {
			return true
		}
	}
	return false
}

// madeAhead is what is made in the other blocks without which one is not come to.
func (s second) madeAhead(b int) map[int]bool {
	made := map[int]bool{}
	for o, k := range s.f.Blocks {
		if o != b && !s.without(o)[b] {
			for _, id := range k.List {
				made[id] = true
			}
		}
	}
	return made
}

// madeAt is what is made at the end of a block.
func (s second) madeAt(b int) map[int]bool {
	made := s.madeAhead(b)
	for _, id := range s.f.Blocks[b].List {
		made[id] = true
	}
	return made
}

// prog is the first flaw of a program, and of which function.
func (s second) prog() (int, int) {
	if len(s.p.Funcs) == 0 || len(s.p.Funcs) > 256 || s.p.Main < 0 || s.p.Main >= len(s.p.Funcs) {
		return 8, 0
	}
	if main := s.p.Funcs[s.p.Main]; len(main.Params) > 0 || main.Ret != 1 {
		return 8, 0
	}
	for n, f := range s.p.Funcs {
		wrong := func(is int) bool { return is < 1 || is > 4 }
		if len(f.Params) > 16 || slices.ContainsFunc(f.Params, wrong) || f.Ret != 0 && wrong(f.Ret) {
			return 8, n
		}
	}
	for n, f := range s.p.Funcs {
		if why := (second{s.p, f}).flaw(); why != 0 {
			return why, n
		}
	}
	return 0, 0
}

// maker makes sound programs by chance.
type maker struct {
	r *rand.Rand
	p api.Prog
	f *api.Func
}

// program is 1 to 4 functions, one of which is main.
func (m *maker) program() api.Prog {
	m.p = api.Prog{Funcs: make([]api.Func, 1+m.r.Intn(4))}
	for n := range m.p.Funcs {
		f := &m.p.Funcs[n]
		f.Ret = m.r.Intn(5)
		for range m.r.Intn(4) {
			f.Params = append(f.Params, 1+m.r.Intn(4))
		}
	}
	m.p.Main = m.r.Intn(len(m.p.Funcs))
	m.p.Funcs[m.p.Main] = api.Func{Ret: api.TypeInt}
	for n := range m.p.Funcs {
		m.f = &m.p.Funcs[n]
		m.ways()
		m.fill()
	}
	return m.p
}

// ways makes blocks that are all reached, and their Preds in any order.
func (m *maker) ways() {
	for {
		m.f.Blocks = make([]api.Block, 1+m.r.Intn(7))
		for b := range m.f.Blocks {
			others := m.r.Perm(len(m.f.Blocks))
			others = slices.DeleteFunc(others, func(to int) bool { return to == 0 })
			e := &m.f.Blocks[b].Term
			*e = api.Term{Kind: api.TermRet, Arg: -1}
			if many := m.r.Intn(3); many > 0 && many <= len(others) {
				*e = api.Term{Kind: many, Arg: -1, To: others[:many]}
			}
		}
		if !(second{f: *m.f}).reach() {
			break
		}
	}
	for _, b := range m.r.Perm(len(m.f.Blocks)) {
		for _, to := range m.f.Blocks[b].Term.To {
			m.f.Blocks[to].Preds = append(m.f.Blocks[to].Preds, b)
		}
	}
}

// fill puts instructions into all blocks: whatever stands over a block is filled ahead of it.
func (m *maker) fill() {
	s := second{f: *m.f}
	many := make([]int, len(m.f.Blocks))
	order := m.r.Perm(len(m.f.Blocks))
	for o := range m.f.Blocks {
		for b, reached := range s.without(o) {
			if !reached {
				many[b]++
			}
		}
	}
	slices.SortStableFunc(order, func(a, b int) int { return many[a] - many[b] })
	for _, b := range order {
		m.block(b)
	}
	for b, k := range m.f.Blocks {
		for _, id := range k.List {
			if x := &m.f.Ins[id]; x.Op == api.OpPhi {
				for _, from := range k.Preds {
					x.Args = append(x.Args, m.some(second{f: *m.f}.madeAt(from), x.Type))
				}
			}
		}
		made := second{f: *m.f}.madeAt(b)
		e := &m.f.Blocks[b].Term
		if e.Kind == api.TermBranch {
			e.Arg = m.some(made, api.TypeBool)
		}
		if e.Kind == api.TermRet && m.f.Ret != 0 {
			e.Arg = m.some(made, m.f.Ret)
		}
	}
	m.mix()
}

// some is one of what is made, of a type.
func (m *maker) some(made map[int]bool, is int) int {
	var l []int
	for id := range m.f.Ins {
		if made[id] && m.f.Ins[id].Type == is {
			l = append(l, id)
		}
	}
	return l[m.r.Intn(len(l))]
}

// block fills one block: the first one with something of each type, others with OpPhi whose Args are told later.
func (m *maker) block(b int) {
	k := &m.f.Blocks[b]
	made := second{f: *m.f}.madeAhead(b)
	add := func(x api.Ins) {
		made[len(m.f.Ins)] = true
		k.List = append(k.List, len(m.f.Ins))
		m.f.Ins = append(m.f.Ins, x)
	}
	if b == 0 {
		for n, is := range m.f.Params {
			add(param(is, int64(n)))
		}
		add(number(int64(m.r.Intn(9) - 4)))
		add(api.Ins{Op: api.OpConst, Type: api.TypeBool, N: int64(m.r.Intn(2))})
		for _, op := range list(api.OpNew, api.OpNew2) {
			x := fitting(op, signatures(op)[0])
			m.hold(&x, made, x.Args)
			add(x)
		}
	} else {
		for range m.r.Intn(3) {
			add(ins(api.OpPhi, 1+m.r.Intn(4)))
		}
	}
	for range m.r.Intn(6) {
		add(m.one(made))
	}
}

// hold lets an instruction use what is made, of some types.
func (m *maker) hold(x *api.Ins, made map[int]bool, types []int) {
	args := make([]int, len(types))
	for i, is := range types {
		args[i] = m.some(made, is)
	}
	x.Args = args
}

// one is any instruction but OpParam and OpPhi.
func (m *maker) one(made map[int]bool) api.Ins {
	op := api.OpAdd + m.r.Intn(api.OpCall-api.OpAdd+1)
	if op == api.OpCall {
		to := m.r.Intn(len(m.p.Funcs))
		x := call(to, m.p.Funcs[to].Ret)
		m.hold(&x, made, m.p.Funcs[to].Params)
		return x
	}
	signs := signatures(op)
	x := fitting(op, signs[m.r.Intn(len(signs))])
	m.hold(&x, made, x.Args)
	return x
}

// mix numbers the instructions in any order, with some of OpNone among them.
func (m *maker) mix() {
	old := m.f.Ins
	names := m.r.Perm(len(old) + m.r.Intn(3))
	m.f.Ins = make([]api.Ins, len(names))
	rename := func(l []int) {
		for i, id := range l {
			l[i] = names[id]
		}
	}
	for id, x := range old {
		rename(x.Args)
		m.f.Ins[names[id]] = x
	}
	for b := range m.f.Blocks {
		k := &m.f.Blocks[b]
		rename(k.List)
		if k.Term.Arg != -1 {
			k.Term.Arg = names[k.Term.Arg]
		}
	}
}

// near is a number near to those that something has, mostly one of them.
func (m *maker) near(many int) int { return m.r.Intn(many+2) - 1 }

// bendList changes one number of a list, or how many there are.
func (m *maker) bendList(l []int, many int) []int {
	l = slices.Clone(l)
	switch n := m.r.Intn(6); {
	case len(l) == 0 || n == 0:
		return slices.Insert(l, m.r.Intn(len(l)+1), m.near(many))
	case n == 1:
		at := m.r.Intn(len(l))
		return slices.Delete(l, at, at+1)
	case n == 2:
		a, b := m.r.Intn(len(l)), m.r.Intn(len(l))
		l[a], l[b] = l[b], l[a]
		return l
	}
	l[m.r.Intn(len(l))] = m.near(many)
	return l
}

// bend changes one thing of a program.
func (m *maker) bend(p *api.Prog) {
	f := &p.Funcs[m.r.Intn(len(p.Funcs))]
	if len(f.Blocks) == 0 || len(f.Ins) == 0 {
		return
	}
	k := &f.Blocks[m.r.Intn(len(f.Blocks))]
	x := &f.Ins[m.r.Intn(len(f.Ins))]
	switch m.r.Intn(19) {
	case 0:
		k.Term.Kind = m.near(4)
	case 1:
		k.Term.Arg = m.near(len(f.Ins))
	case 2:
		k.Term.To = m.bendList(k.Term.To, len(f.Blocks))
	case 3, 4:
		k.Preds = m.bendList(k.Preds, len(f.Blocks))
	case 5, 6:
		k.List = m.bendList(k.List, len(f.Ins))
	case 7:
		x.Op = m.near(37)
	case 8:
		x.Type = m.near(5)
	case 9:
		x.N = int64(m.near(4))
	case 10:
		x.To = m.near(len(p.Funcs))
	case 11, 12, 13, 14:
		x.Args = m.bendList(x.Args, len(f.Ins))
	case 15:
		f.Ret = m.near(5)
	case 16:
		f.Params = m.bendList(f.Params, 5)
	case 17:
		p.Main = m.near(len(p.Funcs))
	case 18:
		m.rewire(f, k)
	}
}

// rewire lets a block go on elsewhere, and Preds with it.
func (m *maker) rewire(f *api.Func, k *api.Block) {
	if len(k.Term.To) == 0 {
		return
	}
	k.Term.To = slices.Clone(k.Term.To)
	k.Term.To[m.r.Intn(len(k.Term.To))] = m.r.Intn(len(f.Blocks))
	for b := range f.Blocks {
		f.Blocks[b].Preds = nil
	}
	for b := range f.Blocks {
		for _, to := range f.Blocks[b].Term.To {
			if to >= 0 && to < len(f.Blocks) {
				f.Blocks[to].Preds = append(f.Blocks[to].Preds, b)
			}
		}
	}
}

// move lets an instruction stand elsewhere.
func (m *maker) move(p *api.Prog) {
	f := &p.Funcs[m.r.Intn(len(p.Funcs))]
	from, to := &f.Blocks[m.r.Intn(len(f.Blocks))], &f.Blocks[m.r.Intn(len(f.Blocks))]
	if len(from.List) == 0 {
		return
	}
	at := m.r.Intn(len(from.List))
	id := from.List[at]
	from.List = slices.Delete(slices.Clone(from.List), at, at+1)
	to.List = slices.Insert(slices.Clone(to.List), m.r.Intn(len(to.List)+1), id)
}

// swapArg lets an instruction, or an end, use another one of the same type, wherever that stands.
func (m *maker) swapArg(p *api.Prog) {
	m.f = &p.Funcs[m.r.Intn(len(p.Funcs))]
	f, all := m.f, map[int]bool{}
	for id, x := range f.Ins {
		all[id] = x.Op != 0
	}
	if k := &f.Blocks[m.r.Intn(len(f.Blocks))]; m.r.Intn(3) == 0 && k.Term.Arg != -1 {
		k.Term.Arg = m.some(all, f.Ins[k.Term.Arg].Type)
		return
	}
	if x := &f.Ins[m.r.Intn(len(f.Ins))]; len(x.Args) > 0 {
		at := m.r.Intn(len(x.Args))
		x.Args = slices.Clone(x.Args)
		x.Args[at] = m.some(all, f.Ins[x.Args[at]].Type)
	}
}

// agree holds what is told of a program, and of all its functions, against the second reading: the flaw of the program.
func agree(t *testing.T, p api.Prog) int {
	t.Helper()
	for n, f := range p.Funcs {
		if got, want := Func(p, n), (second{p, f}).flaw(); got != want {
			t.Fatalf("%d of %+v: %d, not %d", n, p, got, want)
		}
	}
	got, at := Prog(p)
	want, n := second{p: p}.prog()
	if got != want || at != n {
		t.Fatalf("%+v: %d at %d, not %d at %d", p, got, at, want, n)
	}
	return got
}

// Promise 10.1: programs that are made sound by chance are sound.
func TestSoundByChance(t *testing.T) {
	r := rand.New(rand.NewSource(10))
	for range 1500 {
		m := maker{r: r}
		if p := m.program(); agree(t, p) != api.FlawNone {
			t.Fatalf("%+v", p)
		}
	}
}

// Promise 10.1: of such programs in which some things are changed the same is told as by the second reading; each flaw is met often.
func TestBentByChance(t *testing.T) {
	r := rand.New(rand.NewSource(11))
	var met [9]int
	for range 12000 {
		m := maker{r: r}
		p := clone(m.program())
		switch r.Intn(5) {
		case 0:
			m.move(&p)
		case 1:
			m.swapArg(&p)
		case 2:
			m.bend(&p)
		case 3:
			f := &p.Funcs[r.Intn(len(p.Funcs))]
			m.rewire(f, &f.Blocks[r.Intn(len(f.Blocks))])
		default:
			for range 1 + r.Intn(5) {
				m.bend(&p)
			}
		}
		met[agree(t, p)]++
	}
	for why, many := range met {
		if many < 50 {
			t.Errorf("%d was met %d times", why, many)
		}
	}
	t.Log(met)
}

// Promise 10.1: programs of which nothing need be right.
func TestAnyByChance(t *testing.T) {
	r := rand.New(rand.NewSource(12))
	for range 20000 {
		m := maker{r: r}
		p := api.Prog{Main: m.near(2)}
		for range r.Intn(3) {
			p.Funcs = append(p.Funcs, m.any(r.Intn(4), r.Intn(6)))
		}
		agree(t, p)
	}
}

// any is a function of which nothing need be right.
func (m *maker) any(blocks, many int) api.Func {
	some := func(most, below int) []int {
		var l []int
		for range m.r.Intn(most + 1) {
			l = append(l, m.near(below))
		}
		return l
	}
	f := api.Func{Params: some(2, 5), Ret: m.near(5)}
	for range many {
		f.Ins = append(f.Ins, api.Ins{Op: m.near(38), Type: m.near(5), Args: some(3, many), N: int64(m.near(3)), To: m.near(2)})
	}
	for range blocks {
		f.Blocks = append(f.Blocks, block(api.Term{Kind: m.near(4), Arg: m.near(many), To: some(2, blocks)}, some(3, blocks), some(4, many)))
	}
	return f
}
