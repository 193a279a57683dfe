package number

import (
	"math/rand"
	"slices"
	"testing"

	"distaff/api"
	"distaff/arith"
	"distaff/ir"
	"distaff/samples"
)

// second is a second reading of the chapter: each two instructions are held against each other, over and over, till nothing goes. Which blocks stand over others is found out by leaving one out at a time.
type second struct {
	e     *ir.Edit
	under [][]bool // of each block those that are not reached without it
	block []int    // of each instruction
	place []int
}

func secondly(f api.Func) *second {
	s := &second{e: ir.New(f)}
	for o := range f.Blocks {
		under := make([]bool, len(f.Blocks))
		for b := range under {
			under[b] = true
		}
		var enter func(b int)
		enter = func(b int) {
			if b != o && under[b] {
				under[b] = false
				for _, to := range f.Blocks[b].Term.To {
					enter(to)
				}
			}
		}
		enter(0)
		s.under = append(s.under, under)
	}
	s.find()
	return s
}

// find tells where each instruction stands now.
func (s *second) find() {
	f := s.e.F()
	s.block, s.place = make([]int, len(f.Ins)), make([]int, len(f.Ins))
	for b, k := range f.Blocks {
		for at, id := range k.List {
			s.block[id], s.place[id] = b, at
		}
	}
}

// over tells whether one instruction stands over another one.
func (s *second) over(a, b int) bool {
	if s.block[a] == s.block[b] {
		return s.place[a] < s.place[b]
	}
	return s.under[s.block[a]][s.block[b]]
}

// alike tells whether two instructions compute the same.
func alike(x, y api.Ins) bool {
	if !ir.Pure(x.Op) && x.Op != api.OpDiv && x.Op != api.OpRem || x.Op == api.OpPhi || x.Type != y.Type || x.N != y.N {
		return false
	}
	if x.Op == y.Op && slices.Equal(x.Args, y.Args) {
		return true
	}
	op, turns := arith.Turned(x.Op)
	return turns && op == y.Op && x.Args[0] == y.Args[1] && x.Args[1] == y.Args[0]
}

// readsAgain tells whether a cell that an instruction reads was read by another one, and cannot have been written since: back to there there is one way alone.
func (s *second) readsAgain(id, by int) bool {
	f := s.e.F()
	if x, y := f.Ins[id], f.Ins[by]; x.Op != api.OpLoad || y.Op != api.OpLoad || !slices.Equal(x.Args, y.Args) {
		return false
	}
	for b, at := s.block[id], s.place[id]-1; ; at-- {
		if at < 0 {
			if len(f.Blocks[b].Preds) != 1 {
				return false
			}
			b = f.Blocks[b].Preds[0]
			at = len(f.Blocks[b].List)
			continue
		}
		switch o := f.Blocks[b].List[at]; {
		case o == by:
			return true
		case f.Ins[o].Op == api.OpStore || f.Ins[o].Op == api.OpCall:
			return false
		}
	}
}

// done is what comes of the function.
func (s *second) done() api.Func {
	f := s.e.F()
	for again := true; again; {
		again = false
		for id := range f.Ins {
			for by := range f.Ins {
				if (alike(f.Ins[by], f.Ins[id]) && s.over(by, id)) || s.readsAgain(id, by) {
					s.e.Replace(id, by)
					s.e.Drop(id)
					s.find()
					again = true
				}
			}
		}
	}
	return s.e.Done()
}

// doubled is a function with instructions of another one computed again at places under them, often in the other order; much of what used one of them uses that.
func doubled(r *rand.Rand, f api.Func) api.Func {
	s := secondly(f)
	for range 2 + r.Intn(8) {
		f := s.e.F()
		id := r.Intn(len(f.Ins))
		x := ir.Clone(*f).Ins[id]
		b := r.Intn(len(f.Blocks))
		if x.Op == api.OpPhi || !alike(x, x) && x.Op != api.OpLoad || !s.under[s.block[id]][b] || x.Op == api.OpParam && b > 0 {
			continue
		}
		if op, turns := arith.Turned(x.Op); turns && r.Intn(2) == 0 {
			x.Op = op
			slices.Reverse(x.Args)
		}
		at := s.e.Phis(b)
		if b == s.block[id] {
			at = max(at, s.place[id]+1)
		}
		again := s.e.Insert(b, at+r.Intn(len(f.Blocks[b].List)-at+1), x)
		s.find()
		s.share(r, id, again)
	}
	return s.e.Done()
}

// share lets some that use an instruction use another one, where that stands over them.
func (s *second) share(r *rand.Rand, id, again int) {
	f := s.e.F()
	from := s.block[again]
	for b, k := range f.Blocks {
		for _, user := range k.List {
			x := f.Ins[user]
			for at, a := range x.Args {
				there := s.over(again, user)
				if x.Op == api.OpPhi {
					there = s.under[from][k.Preds[at]]
				}
				if a == id && there && r.Intn(3) > 0 {
					x.Args[at] = again
				}
			}
		}
		if k.Term.Arg == id && s.under[from][b] {
			f.Blocks[b].Term.Arg = again
		}
	}
}

// met is how much was met: of each operation how many went, how runs ended.
type met struct{ went, ends map[int]int }

func newMet() met { return met{map[int]int{}, map[int]int{}} }

// promised asks of a program all that is promised: by the words, by the second reading, by runs. It tells what came of it, and how it runs.
func promised(t *testing.T, p api.Prog, in []int64, fuel int64, m met) (q api.Prog, is api.Seen) {
	t.Helper()
	q = pass.Prog(t, p)
	for n, f := range p.Funcs {
		got := q.Funcs[n]
		if is := secondly(f).done(); !ir.Same(got, is) {
			t.Fatalf("of\n%sis\n%snot\n%s", ir.Print(f), ir.Print(got), ir.Print(is))
		}
		for _, x := range f.Ins {
			m.went[x.Op]++
		}
		for _, x := range got.Ins {
			m.went[x.Op]--
		}
	}
	is, _ = samples.NoMoreFuel(t, p, q, in, fuel)
	m.ends[is.End]++
	return q, is
}

// Promise 16.1: of programs made by chance, in which much is computed again.
func TestByChance(t *testing.T) {
	r := rand.New(rand.NewSource(16))
	m := newMet()
	for range 6000 {
		p := samples.Program(r)
		for n, f := range p.Funcs {
			p.Funcs[n] = doubled(r, f)
		}
		promised(t, p, samples.SomeInput(r), 2000, m)
	}
	t.Log(m)
	for op := api.OpConst; op <= api.OpCall; op++ {
		goes := op <= api.OpLoad && op != api.OpPhi
		if goes && m.went[op] < 100 || !goes && m.went[op] != 0 {
			t.Errorf("%d went %d times", op, m.went[op])
		}
	}
	if min(m.ends[api.EndFuel], m.ends[api.EndHalt], m.ends[api.EndTrap], m.ends[api.EndStuck]) < 100 {
		t.Error("not enough was met", m)
	}
}

// R1: no function is too wrong for the call; the same comes of it again, and what is handed in stays.
func TestGarbage(t *testing.T) {
	r := rand.New(rand.NewSource(17))
	for range 20000 {
		unsound(t, samples.Garbage(r))
	}
}
