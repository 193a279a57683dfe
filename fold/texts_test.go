package fold

import (
	"math/rand"
	"strconv"
	"testing"

	"distaff/api"
	"distaff/check"
	"distaff/ir"
	"distaff/lower"
	"distaff/parse"
)

// lowered is the program of a text, in single assignment.
func lowered(t testing.TB, text string) api.Prog {
	t.Helper()
	p, fault := parse.Parse(text)
	if fault.Kind == api.FaultNone {
		p, fault = check.Check(p)
	}
	if fault.Kind != api.FaultNone {
		t.Fatalf("fault %v of %.1000s", fault, text)
	}
	out, fault := lower.Lower(p)
	if fault.Kind != api.FaultNone {
		t.Fatalf("fault %v of %.1000s", fault, text)
	}
	return out
}

// Promise 14.1: of texts whose numbers are known the checks and the sums go, and what is not known stays.
func TestTexts(t *testing.T) {
	for _, c := range []struct {
		text       string
		end        int
		value      int64
		operations int // that are left
		guards     int
	}{
		{"return 1 + 2;", api.EndHalt, 3, 0, 0},
		{"return (2 + 3) * 4 - -(7 / 2) % 3;", api.EndHalt, 20, 0, 0},
		{"var a = 7; var b = a / 0; return 1 + 2;", api.EndTrap, api.TrapDivide, 1, 1},
		{"var a = new [3]; return a[2] + len(a);", api.EndHalt, 3, 2, 1},
		{"var a = new [2 * 3 - 7]; return 1;", api.EndTrap, api.TrapLength, 0, 1},
		{"var a = input; return a / 2 + a * (3 - 2);", api.EndHalt, 7, 3, 0},
		{"var b = true; if !b { return 1; } return 2 + 2;", api.EndHalt, 4, 0, 0},
		{"var a = 0; for i = 0 to 5 { a = a + i; } return a;", api.EndHalt, 10, 3, 0},
		{"var a = 0; for i = 0 to 5 { a = a + i * (2 - 1); } return a << (4 - 4);", api.EndHalt, 10, 5, 0},
		{"print 9223372036854775807 + 1; print -9223372036854775808 / -1; return -7 >>> 60;", api.EndHalt, 15, 0, 0},
	} {
		p := lowered(t, "fn main(): int { "+c.text+" }")
		q := folded(t, p)
		got := same(t, p, q, []int64{5, 1}, 1000)
		operations, guards := 0, 0
		for _, x := range q.Funcs[0].Ins {
			if x.Op >= api.OpAdd && x.Op <= api.OpFlip {
				operations++
			}
			if x.Op == api.OpGuard {
				guards++
			}
		}
		if got.End != c.end || got.Value != c.value || operations != c.operations || guards != c.guards {
			t.Errorf("%s: %+v\n%s", c.text, got, ir.Print(q.Funcs[0]))
		}
	}
}

// teller makes texts by chance, of numbers that are mostly known.
type teller struct {
	*rand.Rand
	vars  []string
	loops int
}

func (m *teller) pick(l ...string) string { return l[m.Intn(len(l))] }

func (m *teller) number(size int) string {
	switch n := m.Intn(12); {
	case size == 0 || n < 3:
		return m.pick("0", "1", "2", "3", "7", "64", "9223372036854775807")
	case n < 6:
		return m.pick(m.vars...)
	case n == 6:
		return m.pick("-", "~") + m.number(size-1)
	case n == 7:
		return "r[" + m.number(size-1) + " & 3]"
	case n == 8:
		return "f(" + m.number(size-1) + ", " + m.truth(size-1) + ")"
	case n == 9 && m.Intn(4) == 0:
		return "input"
	}
	if m.Intn(6) == 0 {
		return "(" + m.number(size-1) + m.pick(" / ", " % ") + "(1 | " + m.number(size-1) + "))"
	}
	return "(" + m.number(size-1) + m.pick(" + ", " - ", " * ", " + ", " - ", " & ", " | ", " ^ ", " << ", " >> ", " >>> ", " + ", " - ", " / ", " % ") + m.number(size-1) + ")"
}

func (m *teller) truth(size int) string {
	switch n := m.Intn(8); {
	case size == 0 || n == 0:
		return m.pick("true", "false")
	case n == 1:
		return "!" + m.truth(size-1)
	case n < 4:
		return "(" + m.truth(size-1) + m.pick(" && ", " || ", " == ", " != ") + m.truth(size-1) + ")"
	}
	return "(" + m.number(size-1) + m.pick(" == ", " != ", " < ", " <= ", " > ", " >= ") + m.number(size-1) + ")"
}

func (m *teller) block(size int) string {
	out := "{ "
	for range 1 + m.Intn(4) {
		out += m.stmt(size)
	}
	return out + "} "
}

func (m *teller) stmt(size int) string {
	switch n := m.Intn(14); {
	case n < 4:
		return m.vars[m.Intn(4)] + " = " + m.number(3) + "; "
	case n < 6:
		return "print " + m.number(3) + "; "
	case n == 6:
		return "r[" + m.pick("0", "1", "3", m.number(2)+" & 3") + "] = " + m.number(2) + "; "
	case n == 7 && m.loops > 0:
		return "if " + m.truth(2) + m.pick(" { break; } ", " { continue; } ")
	case n < 10 && size > 0:
		return "if " + m.truth(3) + " " + m.block(size-1) + "else " + m.block(size-1)
	case n < 13 && size > 0:
		m.loops++
		defer func() { m.loops-- }()
		if n == 10 {
			return "while " + m.truth(3) + " " + m.block(size-1)
		}
		had := len(m.vars)
		defer func() { m.vars = m.vars[:had] }()
		name, bounds := "i"+strconv.Itoa(had), m.pick("0", "1", m.number(1))+" to "+m.pick("2", "4", m.number(1))
		m.vars = append(m.vars, name)
		return "for " + name + " = " + bounds + m.pick(" ", " step 2 ") + m.block(size-1)
	}
	return "print " + m.pick(m.vars...) + "; "
}

func (m *teller) program() string {
	m.vars = []string{"a", "b", "c", "d"}
	out := "fn main(): int { var a = 0; var b = 1; var c = 5; var d = -1; var r = new [4]; "
	for range 7 {
		out += m.stmt(3)
	}
	m.vars = []string{"x"}
	return out + "return a + b * c - d; } fn f(x: int, y: bool): int { var r = new [2 + 2]; if y || " + m.pick("true", "false") + " { return x" + m.pick(" + 1", " / (1 - 1)", " * (2 + 3)") + "; } r[1] = x; return r[2 - 1]; }"
}

// Promise 14.1: texts that were made by chance do the same, and come to the same as by the second reading.
func TestTextsByChance(t *testing.T) {
	ends := map[[2]int64]int{}
	for seed := range int64(1200) {
		m := &teller{Rand: rand.New(rand.NewSource(seed))}
		text := m.program()
		p := lowered(t, text)
		q := folded(t, p)
		for n := range q.Funcs {
			if is := second(p.Funcs[n]); !ir.Same(q.Funcs[n], is) {
				t.Fatalf("%s\nis\n%snot\n%s", text, ir.Print(q.Funcs[n]), ir.Print(is))
			}
		}
		got := same(t, p, q, []int64{3, 0, 1, -1}, 5000)
		end := [2]int64{int64(got.End), got.Value}
		if got.End == api.EndHalt {
			end[1] = 0
		}
		ends[end]++
	}
	t.Log(ends)
	for _, end := range [][2]int64{{api.EndFuel, 0}, {api.EndHalt, 0}, {api.EndTrap, api.TrapDivide}, {api.EndTrap, api.TrapInput}} {
		if ends[end] < 20 {
			t.Errorf("only %d runs end by %v", ends[end], end)
		}
	}
	if ends[[2]int64{api.EndStuck, 0}] > 0 {
		t.Error("stuck")
	}
}
