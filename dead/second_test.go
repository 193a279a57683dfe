package dead

import (
	"math/rand"
	"slices"
	"testing"

	"distaff/api"
	"distaff/exec"
	"distaff/ir"
	"distaff/samples"
)

// secondly is a second reading of the chapter: all instructions are asked over and over, till no more are needed.
func secondly(f api.Func) []bool {
	needed := make([]bool, len(f.Ins))
	for again := true; again; {
		again = false
		for id := range f.Ins {
			if !needed[id] && asked(f, needed, id) {
				needed[id], again = true, true
			}
		}
	}
	return needed
}

// asked tells whether something needs an instruction, by what is needed so far.
func asked(f api.Func, needed []bool, id int) bool {
	switch f.Ins[id].Op {
	case api.OpNew, api.OpNew2, api.OpStore, api.OpPrint, api.OpInput, api.OpGuard, api.OpCall:
		return true
	}
	for _, k := range f.Blocks {
		if k.Term.Arg == id && (k.Term.Kind == api.TermBranch || k.Term.Kind == api.TermRet) {
			return true
		}
	}
	for user, x := range f.Ins {
		if needed[user] && slices.Contains(x.Args, id) {
			return true
		}
	}
	return false
}

// without is a function without what is not needed: one after the other is dropped by an Edit.
func without(f api.Func, needed []bool) api.Func {
	e := ir.New(f)
	for id := range f.Ins {
		if !needed[id] {
			e.Drop(id)
		}
	}
	return e.Done()
}

// asWords asks whether a function comes to what the second reading says, and is not changed.
func asWords(t *testing.T, f api.Func) {
	t.Helper()
	got, needed, is := pass.Unsound(t, f), Live(f), secondly(f)
	if !slices.Equal(needed, is) {
		t.Fatalf("of\n%sis\n%v, not\n%v", ir.Print(f), needed, is)
	}
	if is := without(f, is); !ir.Same(got, is) {
		t.Fatalf("of\n%sis\n%snot\n%s", ir.Print(f), ir.Print(got), ir.Print(is))
	}
}

// met is how much was met: of each operation how many went, and stayed, how runs ended.
type met struct{ went, stayed, ends map[int]int }

func newMet() met { return met{map[int]int{}, map[int]int{}, map[int]int{}} }

// promised asks of a program all that is promised: by the words, by the second reading, by runs; of those that are never stuck. It tells what came of it, and how it runs.
func promised(t *testing.T, p api.Prog, in []int64, fuel int64, m met) (q api.Prog, is api.Seen) {
	t.Helper()
	q = pass.Prog(t, p)
	for n, f := range p.Funcs {
		asWords(t, f)
		for _, x := range f.Ins {
			m.went[x.Op]++
		}
		for _, x := range q.Funcs[n].Ins {
			m.went[x.Op]--
			m.stayed[x.Op]++
		}
	}
	if is = exec.Run(p, in, fuel); is.End != api.EndStuck {
		is, _ = samples.NoMoreFuel(t, p, q, in, fuel)
	}
	m.ends[is.End]++
	return q, is
}

// Promise 17.1: of programs made by chance.
func TestByChance(t *testing.T) {
	r := rand.New(rand.NewSource(17))
	m := newMet()
	for range 6000 {
		promised(t, samples.Program(r), samples.SomeInput(r), 2000, m)
	}
	t.Log(m)
	for op := api.OpConst; op <= api.OpCall; op++ {
		if goes := op < api.OpNew; goes && m.went[op] < 100 || !goes && m.went[op] != 0 || m.stayed[op] < 100 {
			t.Errorf("%d went %d times, and stayed %d times", op, m.went[op], m.stayed[op])
		}
	}
	if min(m.ends[api.EndFuel], m.ends[api.EndHalt], m.ends[api.EndTrap]) < 100 {
		t.Error("not enough was met", m)
	}
}

// R1: no function is too wrong for the call: the words hold of it, too, and what is handed in stays.
func TestGarbage(t *testing.T) {
	r := rand.New(rand.NewSource(18))
	for range 20000 {
		asWords(t, samples.Garbage(r))
	}
}
