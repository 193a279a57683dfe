package dead

import (
	"math/rand"
	"testing"

	"distaff/api"
	"distaff/fold"
	"distaff/ir"
	"distaff/samples"
	"distaff/sparse"
)

// Promise 17.1: of texts, how many instructions that only compute are left, how many that are seen, and how they run.
func TestTexts(t *testing.T) {
	for _, c := range []struct {
		text  string
		pure  int
		seen  int
		end   int
		value int64
	}{
		{"print 1; var a = 2 + 3; return 4;", 2, 1, api.EndHalt, 4},
		{"var a = 2 + 3; var b = a * a; return a;", 3, 0, api.EndHalt, 5},
		{"var a = input; var b = input; return a;", 0, 2, api.EndHalt, 5},
		{"var a = input; var b = 7; if a > 3 { b = 8; } return a;", 2, 1, api.EndHalt, 5},
		{"var a = input; var b = 7; if a > 3 { b = 8; } return b;", 5, 1, api.EndHalt, 8},
		{"var a = 0; var b = 0; for i = 0 to 3 { a = a + i; b = b + a; } return a;", 9, 0, api.EndHalt, 3},
		{"var a = 0; var b = 0; for i = 0 to 3 { a = a + i; b = b + a; } return b;", 12, 0, api.EndHalt, 4},
		{"var r = new [4]; r[1] = 7; return 3;", 8, 4, api.EndHalt, 3},
		{"var a = 7; if input > 9 { a = 8; return 4; } return 3;", 4, 1, api.EndHalt, 3},
		{"var a = 1 / input; return 3;", 3, 2, api.EndHalt, 3},
		{"var a = 1 / (input - 5); return 3;", 5, 2, api.EndTrap, api.TrapDivide},
		{"var r = new [2]; var a = r[2]; return 3;", 7, 3, api.EndTrap, api.TrapIndex},
		{"var r = new [-2]; return 3;", 5, 2, api.EndTrap, api.TrapLength},
	} {
		q, is := promised(t, samples.Lowered(t, "fn main(): int { "+c.text+" }"), []int64{5, 1, 0}, 1000, newMet())
		pure, seen := 0, 0
		for _, x := range q.Funcs[0].Ins {
			if ir.Seen(x.Op) {
				seen++
			} else {
				pure++
			}
		}
		if is.End != c.end || is.Value != c.value || pure != c.pure || seen != c.seen {
			t.Errorf("%s: %+v %d %d\n%s", c.text, is, pure, seen, ir.Print(q.Funcs[0]))
		}
	}
}

// Promise 17.1: what layers 14 and 15 leave, and nobody needs, goes.
func TestBehindOthers(t *testing.T) {
	for _, c := range []struct {
		text string
		is   api.Func
	}{
		{"return 1 + 2 * 3;", straight(0, number(7))},
		{"var r = new [3]; return 4;", straight(2, number(3), ins(api.OpNew, api.TypeArr, 0), number(4))},
	} {
		f := samples.Lowered(t, "fn main(): int { "+c.text+" }").Funcs[0]
		want(t, sparse.Func(fold.Func(f)), c.is)
	}
}

// Promise 17.1: of texts that were made by chance, as they are lowered and behind other layers.
func TestTextsByChance(t *testing.T) {
	m := newMet()
	for seed := range int64(1000) {
		p := samples.Lowered(t, samples.Text(rand.New(rand.NewSource(seed))))
		in := []int64{3, 0, 1, -1}
		promised(t, p, in, 5000, m)
		for n, f := range p.Funcs {
			p.Funcs[n] = fold.Func(f)
		}
		promised(t, p, in, 5000, m)
	}
	t.Log(m)
	if min(m.went[api.OpConst], m.went[api.OpPhi], m.went[api.OpAdd]) < 100 || m.ends[api.EndStuck] > 0 || min(m.ends[api.EndFuel], m.ends[api.EndHalt], m.ends[api.EndTrap]) < 100 {
		t.Error("not enough was met", m)
	}
}
