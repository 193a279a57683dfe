package samples

import (
	"slices"

	"distaff/api"
	"distaff/check"
	"distaff/exec"
	"distaff/ir"
	"distaff/lower"
	"distaff/parse"
)

// Lowered is the program of a text without faults, in single assignment.
func Lowered(t Test, text string) api.Prog {
	t.Helper()
	p, fault := parse.Parse(text)
	if fault.Kind == api.FaultNone {
		p, fault = check.Check(p)
	}
	var out api.Prog
	if fault.Kind == api.FaultNone {
		out, fault = lower.Lower(p)
	}
	if fault.Kind != api.FaultNone {
		t.Fatalf("fault %v of %.1000s", fault, text)
	}
	return out
}

// Same runs two programs, each with its fuel: the same is seen of them.
func Same(t Test, p, q api.Prog, in []int64, fuel, more int64) (is, got api.Seen) {
	t.Helper()
	is, got = exec.Run(p, in, fuel), exec.Run(q, in, more)
	if !alike(is, got) {
		text := ""
		for n := range p.Funcs {
			text += ir.Print(p.Funcs[n]) + ir.Print(q.Funcs[n])
		}
		t.Fatalf("%v: %+v, not %+v:\n%s", in, got, is, text)
	}
	return is, got
}

// alike tells whether the same is seen of two runs: if the first one ends, the second one ends so, too; else what that prints comes first.
func alike(is, got api.Seen) bool {
	if is.End != api.EndFuel {
		return got.End == is.End && got.Value == is.Value && slices.Equal(got.Events, is.Events)
	}
	begin := got.Events[:min(len(got.Events), len(is.Events))]
	return slices.Equal(begin, is.Events)
}

// NoMoreFuel runs two programs, too: the second one needs no more fuel.
func NoMoreFuel(t Test, p, q api.Prog, in []int64, fuel int64) (is, got api.Seen) {
	t.Helper()
	is, got = Same(t, p, q, in, fuel, fuel)
	if is.End != api.EndFuel && got.Used > is.Used {
		t.Fatalf("%v: as much fuel as %d, not %d", in, got.Used, is.Used)
	}
	return is, got
}

// SomeInput is a few small numbers to be read.
func SomeInput(d Dice) []int64 {
	in := make([]int64, d.Intn(8))
	for at := range in {
		in[at] = int64(d.Intn(5))
	}
	return in
}
