package number

import (
	"math/rand"
	"testing"

	"distaff/api"
	"distaff/ir"
	"distaff/samples"
)

// Promise 16.1: of texts, how many operations, numbers, lengths and cells are left, and how they run.
func TestTexts(t *testing.T) {
	for _, c := range []struct {
		text       string
		operations int
		numbers    int
		lengths    int
		loads      int
		end        int
		value      int64
	}{
		{"var a = input; var b = input; return (a + b) * (b + a);", 2, 0, 0, 0, api.EndHalt, 36},
		{"var a = input; var b = input; return (a - b) * (b - a);", 3, 0, 0, 0, api.EndHalt, -16},
		{"var a = input; return a / 3 + a / 3 * (a % 3) + a % 3;", 6, 2, 0, 0, api.EndHalt, 5},
		{"var a = input; var b = input; if a < b { return 1; } if b > a { return 2; } return 3;", 1, 3, 0, 0, api.EndHalt, 3},
		{"var a = input; if a * a > 7 { return a * a; } return a * a + 1;", 3, 2, 0, 0, api.EndHalt, 25},
		{"var a = input; if a > 7 { print a * a; } else { print a * a; } return a * a;", 4, 1, 0, 0, api.EndHalt, 25},
		{"var a = input; var x = 0; for i = 0 to 3 { x = x + a * a; x = x + a * a; } return x + a * a;", 7, 3, 0, 0, api.EndHalt, 175},
		{"var a = input; var x = a * a; for i = 0 to 3 { x = x + a * a; } return x + a * a;", 5, 3, 0, 0, api.EndHalt, 125},
		{"var r = new [4]; r[2] = r[2] + r[2] + 7; return r[2];", 4, 4, 1, 2, api.EndHalt, 7},
		{"var r = new [4]; var i = input; return r[i - 4] + r[i - 4];", 4, 2, 1, 1, api.EndHalt, 0},
		{"var m = new [2, 3]; m[1, 2] = 5; return m[1, 2] * m[1, 2];", 9, 5, 2, 1, api.EndHalt, 25},
		{"var r = new [4]; return r[4] + r[4];", 3, 2, 1, 1, api.EndTrap, api.TrapIndex},
		{"print input; print input; return input + input;", 1, 0, 0, 0, api.EndTrap, api.TrapInput},
	} {
		q, is := promised(t, samples.Lowered(t, "fn main(): int { "+c.text+" }"), []int64{5, 1, 0}, 1000, newMet())
		operations, numbers, lengths, loads := 0, 0, 0, 0
		for _, x := range q.Funcs[0].Ins {
			switch {
			case x.Op == api.OpConst:
				numbers++
			case x.Op >= api.OpAdd && x.Op <= api.OpFlip:
				operations++
			case x.Op >= api.OpLen && x.Op <= api.OpCols:
				lengths++
			case x.Op == api.OpLoad:
				loads++
			}
		}
		if is.End != c.end || is.Value != c.value || operations != c.operations || numbers != c.numbers || lengths != c.lengths || loads != c.loads {
			t.Errorf("%s: %+v %d %d %d %d\n%s", c.text, is, operations, numbers, lengths, loads, ir.Print(q.Funcs[0]))
		}
	}
}

// Promise 16.1: of texts that were made by chance.
func TestTextsByChance(t *testing.T) {
	m := newMet()
	for seed := range int64(1000) {
		promised(t, samples.Lowered(t, samples.Text(rand.New(rand.NewSource(seed)))), []int64{3, 0, 1, -1}, 5000, m)
	}
	t.Log(m)
	if min(m.went[api.OpConst], m.went[api.OpAnd], m.went[api.OpFlip], m.went[api.OpLen], m.went[api.OpUlt]) < 100 || m.went[api.OpLoad] < 50 || min(m.ends[api.EndFuel], m.ends[api.EndHalt], m.ends[api.EndTrap]) < 100 {
		t.Error("not enough was met", m)
	}
}
