package fold

import (
	"math/rand"
	"testing"

	"distaff/api"
	"distaff/ir"
	"distaff/samples"
)

// Promise 14.1: of texts whose numbers are known the checks and the sums go, and what is not known stays.
func TestTexts(t *testing.T) {
	for _, c := range []struct {
		text       string
		end        int
		value      int64
		operations int // that are left
		guards     int
	}{
		{"return 1 + 2;", api.EndHalt, 3, 0, 0},
		{"return (2 + 3) * 4 - -(7 / 2) % 3;", api.EndHalt, 20, 0, 0},
		{"var a = 7; var b = a / 0; return 1 + 2;", api.EndTrap, api.TrapDivide, 1, 1},
		{"var a = new [3]; return a[2] + len(a);", api.EndHalt, 3, 2, 1},
		{"var a = new [2 * 3 - 7]; return 1;", api.EndTrap, api.TrapLength, 0, 1},
		{"var a = input; return a / 2 + a * (3 - 2);", api.EndHalt, 7, 3, 0},
		{"var b = true; if !b { return 1; } return 2 + 2;", api.EndHalt, 4, 0, 0},
		{"var a = 0; for i = 0 to 5 { a = a + i; } return a;", api.EndHalt, 10, 3, 0},
		{"var a = 0; for i = 0 to 5 { a = a + i * (2 - 1); } return a << (4 - 4);", api.EndHalt, 10, 5, 0},
		{"print 9223372036854775807 + 1; print -9223372036854775808 / -1; return -7 >>> 60;", api.EndHalt, 15, 0, 0},
	} {
		p := samples.Lowered(t, "fn main(): int { "+c.text+" }")
		q := pass.Prog(t, p)
		got, _ := samples.NoMoreFuel(t, p, q, []int64{5, 1}, 1000)
		operations, guards := 0, 0
		for _, x := range q.Funcs[0].Ins {
			if x.Op >= api.OpAdd && x.Op <= api.OpFlip {
				operations++
			}
			if x.Op == api.OpGuard {
				guards++
			}
		}
		if got.End != c.end || got.Value != c.value || operations != c.operations || guards != c.guards {
			t.Errorf("%s: %+v\n%s", c.text, got, ir.Print(q.Funcs[0]))
		}
	}
}

// Promise 14.1: texts that were made by chance do the same, and come to the same as by the second reading.
func TestTextsByChance(t *testing.T) {
	ends := map[[2]int64]int{}
	for seed := range int64(1200) {
		text := samples.Text(rand.New(rand.NewSource(seed)))
		p := samples.Lowered(t, text)
		q := pass.Prog(t, p)
		for n := range q.Funcs {
			if is := second(p.Funcs[n]); !ir.Same(q.Funcs[n], is) {
				t.Fatalf("%s\nis\n%snot\n%s", text, ir.Print(q.Funcs[n]), ir.Print(is))
			}
		}
		got, _ := samples.NoMoreFuel(t, p, q, []int64{3, 0, 1, -1}, 5000)
		end := [2]int64{int64(got.End), got.Value}
		if got.End == api.EndHalt {
			end[1] = 0
		}
		ends[end]++
	}
	t.Log(ends)
	for _, end := range [][2]int64{{api.EndFuel, 0}, {api.EndHalt, 0}, {api.EndTrap, api.TrapDivide}, {api.EndTrap, api.TrapInput}} {
		if ends[end] < 20 {
			t.Errorf("only %d runs end by %v", ends[end], end)
		}
	}
	if ends[[2]int64{api.EndStuck, 0}] > 0 {
		t.Error("stuck")
	}
}
