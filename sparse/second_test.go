package sparse

import (
	"math/rand"
	"slices"
	"testing"

	"distaff/api"
	"distaff/arith"
	"distaff/ir"
	"distaff/samples"
)

// second is a second reading of the chapter: all is gone through over and over, till there is nothing new. Of each instruction it keeps the numbers that it may be: with two, all may be.
type second struct {
	f    api.Func
	is   [][]int64
	ways map[[2]int]int
	more bool
}

func secondly(f api.Func) *second {
	s := &second{f: f, is: make([][]int64, len(f.Ins)), ways: map[[2]int]int{{-1, 0}: 1}, more: true}
	for s.more {
		s.more = false
		for b := range f.Blocks {
			for from := range len(f.Blocks) + 1 {
				if s.ways[[2]int{from - 1, b}] > 0 {
					s.block(b)
				}
			}
		}
	}
	return s
}

// block is gone through as what is known by now is.
func (s *second) block(b int) {
	k := s.f.Blocks[b]
	for _, id := range k.List {
		x := s.f.Ins[id]
		switch {
		case x.Op == api.OpConst:
			s.add(id, x.N)
		case x.Op == api.OpPhi:
			for at, from := range k.Preds {
				if s.ways[[2]int{from, b}] > 0 {
					s.add(id, s.is[x.Args[at]]...)
				}
			}
		case x.Op == api.OpSelect:
			for _, c := range s.is[x.Args[0]] {
				s.add(id, s.is[x.Args[2-min(1, c)]]...)
			}
		default:
			s.add(id, s.operation(x)...)
		}
	}
	for at, to := range k.Term.To {
		if k.Term.Kind == api.TermJump || slices.Contains(s.is[k.Term.Arg], int64(1-at)) {
			s.more = s.more || s.ways[[2]int{b, to}] == 0
			s.ways[[2]int{b, to}] = 1
		}
	}
}

// operation is what an operation may be; two numbers, if it is none.
func (s *second) operation(x api.Ins) []int64 {
	both := []int64{0, 1}
	var of []int64
	for _, a := range x.Args {
		if len(s.is[a]) > 1 {
			return both
		}
		of = append(of, s.is[a]...)
	}
	n, ok := int64(0), false
	switch {
	case arith.Binary(x.Op):
		n, ok = arith.Do(x.Op, of[0], of[1])
	case arith.Unary(x.Op):
		n, ok = arith.One(x.Op, of[0])
	}
	if ok {
		return []int64{n}
	}
	return both
}

// add lets an instruction be numbers, too. Of two different ones it is 0 and 1: all may be.
func (s *second) add(id int, numbers ...int64) {
	for _, n := range numbers {
		switch l := s.is[id]; {
		case len(l) == 0:
			s.is[id], s.more = []int64{n}, true
		case len(l) == 1 && l[0] != n:
			s.is[id], s.more = []int64{0, 1}, true
		}
	}
}

// facts is what is known by the second reading.
func (s *second) facts() ([]bool, []int64) {
	known, numbers := make([]bool, len(s.is)), make([]int64, len(s.is))
	for id, l := range s.is {
		if len(l) == 1 {
			known[id], numbers[id] = true, l[0]
		}
	}
	return known, numbers
}

// done is the function by the second reading, one change after the other by an Edit.
func (s *second) done() api.Func {
	e := ir.New(s.f)
	for b, k := range s.f.Blocks {
		for at, to := range k.Term.To {
			if other := k.Term.To[len(k.Term.To)-1-at]; s.ways[[2]int{b, to}] == 0 && s.ways[[2]int{b, other}] > 0 {
				e.Turn(b, to, e.Block())
				e.F().Blocks[b].Term = ir.Jump(other)
			}
		}
	}
	known, numbers := s.facts()
	for b, k := range s.f.Blocks {
		laid := 0
		for _, id := range k.List {
			if !known[id] {
				continue
			}
			x := api.Ins{Op: api.OpConst, Type: s.f.Ins[id].Type, N: numbers[id]}
			if s.f.Ins[id].Op != api.OpPhi {
				e.F().Ins[id] = x
				continue
			}
			e.Replace(id, e.Insert(b, e.Phis(b)+laid, x))
			e.Drop(id)
			laid++
		}
	}
	return e.Done()
}

// watched is a program that ends by a trap where something that is known is not what it is said to be.
func watched(p api.Prog) api.Prog {
	q := api.Prog{Main: p.Main}
	for _, f := range p.Funcs {
		known, numbers := Facts(f)
		e := ir.New(f)
		for b, k := range f.Blocks {
			phis := e.Phis(b)
			for place, id := range slices.Backward(k.List) {
				if known[id] {
					at := max(place+1, phis)
					n := e.Insert(b, at, api.Ins{Op: api.OpConst, Type: f.Ins[id].Type, N: numbers[id]})
					e.Insert(b, at+1, ins(api.OpEq, api.TypeBool, n, id))
					e.Insert(b, at+2, guard(api.TrapLength, n+1))
				}
			}
		}
		q.Funcs = append(q.Funcs, e.Done())
	}
	return q
}

// counts is how much was met: of each operation how often it is known, how many ways went, how runs ended.
type counts struct {
	known map[int]int
	ways  int
	ends  map[int]int
}

func newCounts() *counts { return &counts{known: map[int]int{}, ends: map[int]int{}} }

// promised asks of a program, that is sound, all that is promised: by its words, by the second reading, by runs. It tells what came of it, and how it runs.
func promised(t *testing.T, p api.Prog, in []int64, fuel int64, met *counts) (q api.Prog, is api.Seen) {
	t.Helper()
	q = pass.Prog(t, p)
	for n, f := range p.Funcs {
		known, numbers := Facts(f)
		s := secondly(f)
		isKnown, isNumbers := s.facts()
		if !slices.Equal(known, isKnown) || !slices.Equal(numbers, isNumbers) {
			t.Fatalf("of %s\n%v %v, not\n%v %v", ir.Print(f), known, numbers, isKnown, isNumbers)
		}
		got := q.Funcs[n]
		if is := s.done(); !ir.Same(got, is) {
			t.Fatalf("of\n%sis\n%snot\n%s", ir.Print(f), ir.Print(got), ir.Print(is))
		}
		for id, x := range f.Ins {
			if known[id] {
				met.known[x.Op]++
			}
		}
		met.ways += ways(f) - ways(got)
	}
	is, got := samples.Same(t, p, q, in, fuel, fuel)
	if got.Used != is.Used {
		t.Fatal(got, is)
	}
	samples.Same(t, p, watched(p), in, fuel, 4*fuel)
	met.ends[is.End]++
	return q, is
}

// ways is how many ways a function has.
func ways(f api.Func) int {
	n := 0
	for _, k := range f.Blocks {
		n += len(k.Term.To)
	}
	return n
}

// Promise 15.1: of programs made by chance.
func TestByChance(t *testing.T) {
	r := rand.New(rand.NewSource(15))
	met := newCounts()
	for range 6000 {
		in := samples.SomeInput(r)
		promised(t, samples.Program(r), in, 2000, met)
	}
	t.Log(met)
	for op := api.OpPhi; op <= api.OpCall; op++ {
		number := arith.Binary(op) || arith.Unary(op) || op == api.OpPhi || op == api.OpSelect
		if number && met.known[op] < 100 || !number && met.known[op] != 0 {
			t.Errorf("%d is known %d times", op, met.known[op])
		}
	}
	if met.ways < 1000 || min(met.ends[api.EndFuel], met.ends[api.EndHalt], met.ends[api.EndTrap], met.ends[api.EndStuck]) < 100 {
		t.Error("not enough was met", met)
	}
}

// R1: no function is too wrong for the calls; once is as good as twice, and what is handed in stays.
func TestGarbage(t *testing.T) {
	r := rand.New(rand.NewSource(16))
	for range 20000 {
		unsound(t, samples.Garbage(r))
	}
}
