package sparse

import (
	"math/rand"
	"testing"

	"distaff/api"
	"distaff/ir"
	"distaff/samples"
)

// Promise 15.1: of texts, which branches and which OpPhi are left, and how they run.
func TestTexts(t *testing.T) {
	for _, c := range []struct {
		text     string
		branches int
		phis     int
		end      int
		value    int64
	}{
		{"var x = 1; if x == 1 { return 7; } return 8;", 0, 0, api.EndHalt, 7},
		{"var x = 1; if x != 1 { return 7; } return 8;", 0, 0, api.EndHalt, 8},
		{"var x = 1; if input > 3 { x = 3 - 2; } return x;", 1, 0, api.EndHalt, 1},
		{"var x = 1; if input > 3 { x = 2; } return x;", 1, 1, api.EndHalt, 2},
		{"var x = 1; while input > 0 { if x != 1 { x = 2; } } return x;", 1, 0, api.EndHalt, 1},
		{"var x = 1; while input > 0 { if x != 2 { x = 2; } } return x;", 2, 2, api.EndHalt, 2},
		{"var x = 1; var y = 1; while input > 0 { var z = x; x = y; y = z; } return x + y;", 1, 0, api.EndHalt, 2},
		{"var x = 1; var y = 2; while input > 0 { var z = x; x = y; y = z; } return x;", 1, 2, api.EndHalt, 1},
		{"var x = 0; for i = 0 to 5 { x = x + i; } return x;", 1, 2, api.EndHalt, 10},
		{"var x = 9; for i = 0 to 0 { x = x + i; } return x;", 0, 0, api.EndHalt, 9},
		{"var x = 9; for i = 0 to 5 { x = x + i; break; } return x;", 0, 0, api.EndHalt, 9},
		{"while true { print input; } return 3;", 0, 0, api.EndTrap, api.TrapInput},
		{"return 7 / (3 - 3);", 0, 0, api.EndTrap, api.TrapDivide},
		{"var r = new [3]; if 4 < 3 && input > 0 { return 7; } return r[5];", 0, 0, api.EndTrap, api.TrapIndex},
		{"if true || input > 0 { return 6; } return 7;", 0, 0, api.EndHalt, 6},
	} {
		q, is := promised(t, samples.Lowered(t, "fn main(): int { "+c.text+" }"), []int64{5, 1, 0}, 1000, newCounts())
		branches, phis := 0, 0
		f := q.Funcs[0]
		for _, k := range f.Blocks {
			if k.Term.Kind == api.TermBranch {
				branches++
			}
		}
		for _, x := range f.Ins {
			if x.Op == api.OpPhi {
				phis++
			}
		}
		if is.End != c.end || is.Value != c.value || branches != c.branches || phis != c.phis {
			t.Errorf("%s: %+v %d %d\n%s", c.text, is, branches, phis, ir.Print(f))
		}
	}
}

// Promise 15.1: of texts that were made by chance.
func TestTextsByChance(t *testing.T) {
	met := newCounts()
	for seed := range int64(1200) {
		promised(t, samples.Lowered(t, samples.Text(rand.New(rand.NewSource(seed)))), []int64{3, 0, 1, -1}, 5000, met)
	}
	t.Log(met)
	if met.ways < 1000 || met.known[api.OpPhi] < 500 || min(met.ends[api.EndFuel], met.ends[api.EndHalt], met.ends[api.EndTrap]) < 100 {
		t.Error("not enough was met", met)
	}
}
