package fold

import (
	"math/rand"
	"slices"
	"testing"

	"distaff/api"
	"distaff/arith"
	"distaff/ir"
	"distaff/samples"
	"distaff/sound"
)

// second is a second reading of the chapter: one instruction after the other, by an Edit, till there is nothing to do.
func second(f api.Func) api.Func {
	e := ir.New(f)
	for again := true; again; {
		again = false
		for id, x := range e.F().Ins {
			by, gone, n, known := secondly(e.F(), id, x)
			if known {
				e.F().Ins[id] = api.Ins{Op: api.OpConst, Type: x.Type, N: n}
			}
			if gone {
				e.Replace(id, by)
				e.Drop(id)
			}
			again = again || known || gone
		}
	}
	return e.Done()
}

// secondly tells of an instruction whether it goes, by which other one, or what it comes to.
func secondly(f *api.Func, id int, x api.Ins) (by int, gone bool, n int64, known bool) {
	var of []int64
	for _, a := range x.Args {
		if f.Ins[a].Op == api.OpConst {
			of = append(of, f.Ins[a].N)
		}
	}
	all := len(of) == len(x.Args)
	switch {
	case x.Op == api.OpGuard:
		return -1, all && of[0] != 0, 0, false
	case x.Op == api.OpSelect:
		if c := f.Ins[x.Args[0]]; c.Op == api.OpConst {
			return x.Args[2-c.N], true, 0, false
		}
	case x.Op == api.OpPhi:
		others := slices.DeleteFunc(slices.Clone(x.Args), func(a int) bool { return a == id })
		slices.Sort(others)
		others = slices.Compact(others)
		return others[0], len(others) == 1, 0, false
	case arith.Unary(x.Op) && all:
		n, known = arith.One(x.Op, of[0])
	case arith.Binary(x.Op) && all:
		n, known = arith.Do(x.Op, of[0], of[1])
	}
	return 0, false, n, known
}

// folded is a program all of whose functions are folded: as sound as it was.
func folded(t testing.TB, p api.Prog) api.Prog {
	t.Helper()
	q := api.Prog{Main: p.Main}
	for _, f := range p.Funcs {
		q.Funcs = append(q.Funcs, left(t, f))
	}
	if why, n := sound.Prog(q); why != api.FlawNone {
		t.Fatalf("flaw %d:\n%s\n%s", why, ir.Print(p.Funcs[n]), ir.Print(q.Funcs[n]))
	}
	return q
}

// same runs two programs: the same is seen of them, and the second one takes no more fuel.
func same(t testing.TB, p, q api.Prog, in []int64, fuel int64) api.Seen {
	t.Helper()
	is, got, alike := samples.Runs(p, q, in, fuel, fuel)
	if !alike || is.End != api.EndFuel && got.Used > is.Used {
		for n := range p.Funcs {
			t.Logf("%s\n%s", ir.Print(p.Funcs[n]), ir.Print(q.Funcs[n]))
		}
		t.Fatalf("%v: %+v, not %+v", in, got, is)
	}
	return is
}

// Promise 14.1: of programs made by chance the same comes as by the second reading, and they do the same, with less fuel.
func TestByChance(t *testing.T) {
	r := rand.New(rand.NewSource(14))
	ends, went, stayed := map[int]int{}, map[int]int{}, map[int]int{}
	for range 6000 {
		p := samples.Program(r)
		if why, n := sound.Prog(p); why != api.FlawNone {
			t.Fatalf("flaw %d: %s", why, ir.Print(p.Funcs[n]))
		}
		q := folded(t, p)
		for n, f := range q.Funcs {
			if is := second(p.Funcs[n]); !ir.Same(f, is) {
				t.Fatalf("of\n%sis\n%snot\n%s", ir.Print(p.Funcs[n]), ir.Print(f), ir.Print(is))
			}
			many := map[int]int{}
			for _, x := range p.Funcs[n].Ins {
				many[x.Op]++
			}
			for _, x := range f.Ins {
				many[x.Op]--
				stayed[x.Op]++
			}
			for op := api.OpPhi; op <= api.OpCall; op++ {
				went[op] += many[op]
			}
		}
		in := make([]int64, r.Intn(8))
		for i := range in {
			in[i] = int64(r.Intn(5))
		}
		ends[same(t, p, q, in, 2000).End]++
	}
	t.Log(ends, went, stayed)
	for op := api.OpPhi; op <= api.OpCall; op++ {
		goes := arith.Binary(op) || arith.Unary(op) || op == api.OpPhi || op == api.OpSelect || op == api.OpGuard
		if goes && went[op] < 100 || !goes && went[op] != 0 || stayed[op] < 100 {
			t.Errorf("%d went %d times, and stayed %d times", op, went[op], stayed[op])
		}
	}
	if min(ends[api.EndFuel], ends[api.EndHalt], ends[api.EndTrap], ends[api.EndStuck]) < 100 {
		t.Error("not enough was met", ends)
	}
}

// R1: no function is too wrong for the call; once is as good as twice, and what is handed in stays.
func TestGarbage(t *testing.T) {
	r := rand.New(rand.NewSource(15))
	for range 20000 {
		f := samples.Garbage(r)
		before := ir.Clone(f)
		got := Func(f)
		if !ir.Same(f, before) || !ir.Same(Func(f), got) {
			t.Fatalf("%s\n%s", ir.Print(before), ir.Print(got))
		}
		if again := Func(got); !ir.Same(again, got) {
			t.Fatalf("%s\n%s\n%s", ir.Print(f), ir.Print(got), ir.Print(again))
		}
	}
}
