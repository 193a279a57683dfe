package fold

import (
	"math/rand"
	"slices"
	"testing"

	"distaff/api"
	"distaff/arith"
	"distaff/ir"
	"distaff/samples"
)

// second is a second reading of the chapter: one instruction after the other, by an Edit, till there is nothing to do.
func second(f api.Func) api.Func {
	e := ir.New(f)
	for again := true; again; {
		again = false
		for id, x := range e.F().Ins {
			by, gone, n, known := secondly(e.F(), id, x)
			if known {
				e.F().Ins[id] = api.Ins{Op: api.OpConst, Type: x.Type, N: n}
			}
			if gone {
				e.Replace(id, by)
				e.Drop(id)
			}
			again = again || known || gone
		}
	}
	return e.Done()
}

// secondly tells of an instruction whether it goes, by which other one, or what it comes to.
func secondly(f *api.Func, id int, x api.Ins) (by int, gone bool, n int64, known bool) {
	var of []int64
	for _, a := range x.Args {
		if f.Ins[a].Op == api.OpConst {
			of = append(of, f.Ins[a].N)
		}
	}
	all := len(of) == len(x.Args)
	switch {
	case x.Op == api.OpGuard:
		return -1, all && of[0] != 0, 0, false
	case x.Op == api.OpSelect:
		if c := f.Ins[x.Args[0]]; c.Op == api.OpConst {
			return x.Args[2-c.N], true, 0, false
		}
	case x.Op == api.OpPhi:
		others := slices.DeleteFunc(slices.Clone(x.Args), func(a int) bool { return a == id })
		slices.Sort(others)
		others = slices.Compact(others)
		return others[0], len(others) == 1, 0, false
	case arith.Unary(x.Op) && all:
		n, known = arith.One(x.Op, of[0])
	case arith.Binary(x.Op) && all:
		n, known = arith.Do(x.Op, of[0], of[1])
	}
	return 0, false, n, known
}

// Promise 14.1: of programs made by chance the same comes as by the second reading, and they do the same, with less fuel.
func TestByChance(t *testing.T) {
	r := rand.New(rand.NewSource(14))
	ends, went, stayed := map[int]int{}, map[int]int{}, map[int]int{}
	for range 6000 {
		p := samples.Program(r)
		q := pass.Prog(t, p)
		for n, f := range q.Funcs {
			if is := second(p.Funcs[n]); !ir.Same(f, is) {
				t.Fatalf("of\n%sis\n%snot\n%s", ir.Print(p.Funcs[n]), ir.Print(f), ir.Print(is))
			}
			many := map[int]int{}
			for _, x := range p.Funcs[n].Ins {
				many[x.Op]++
			}
			for _, x := range f.Ins {
				many[x.Op]--
				stayed[x.Op]++
			}
			for op := api.OpPhi; op <= api.OpCall; op++ {
				went[op] += many[op]
			}
		}
		is, _ := samples.NoMoreFuel(t, p, q, samples.SomeInput(r), 2000)
		ends[is.End]++
	}
	t.Log(ends, went, stayed)
	for op := api.OpPhi; op <= api.OpCall; op++ {
		goes := arith.Binary(op) || arith.Unary(op) || op == api.OpPhi || op == api.OpSelect || op == api.OpGuard
		if goes && went[op] < 100 || !goes && went[op] != 0 || stayed[op] < 100 {
			t.Errorf("%d went %d times, and stayed %d times", op, went[op], stayed[op])
		}
	}
	if min(ends[api.EndFuel], ends[api.EndHalt], ends[api.EndTrap], ends[api.EndStuck]) < 100 {
		t.Error("not enough was met", ends)
	}
}

// R1: no function is too wrong for the call; once is as good as twice, and what is handed in stays.
func TestGarbage(t *testing.T) {
	r := rand.New(rand.NewSource(15))
	for range 20000 {
		unsound(t, samples.Garbage(r))
	}
}
