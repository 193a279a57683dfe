package lower

import (
	"slices"
	"strconv"
	"strings"
	"testing"

	"distaff/api"
	"distaff/exec"
	"distaff/interp"
	"distaff/ir"
)

// both runs a text as its tree and as it is lowered: what is seen must be the same, if the tree's run ends with so much fuel; else the events of the one begin those of the other.
func both(t testing.TB, text string, fuel int64, in ...int64) api.Seen {
	t.Helper()
	want := interp.Run(checked(t, text), in, fuel)
	p := lowered(t, text)
	ends := want.End != api.EndFuel
	more := 4 * fuel
	if ends {
		// A step of the tree is less than all of the program; what comes on top are cells.
		more = (want.Used+2)*int64(ir.Size(p)+2) + want.Cells
	}
	got := exec.Run(p, in, more)
	least := min(len(want.Events), len(got.Events))
	if !slices.Equal(want.Events[:least], got.Events[:least]) || ends && (len(want.Events) != len(got.Events) || want.End != got.End || want.Value != got.Value) || got.End == api.EndStuck {
		t.Fatalf("input %v: %+v, not %+v:\n%s", in, got, want, text)
	}
	return got
}

// seen holds what is seen of texts against what should be.
func seen(t *testing.T, text string, end int, value int64, events ...int64) {
	t.Helper()
	got := both(t, text, 1<<16, 5, 0, 1)
	if got.End != end || got.Value != value || !slices.Equal(got.Events, events) {
		t.Errorf("%s: %+v", text, got)
	}
}

// with is a program whose main has such statements, beside functions that print what they are handed.
func with(text string) string {
	return "fn n(x: int): int { print x; return x; } fn b(x: bool): bool { print x; return x; } fn r(x: int): [int] { print x; return new [x]; } fn m(x: int): [[int]] { print x; return new [x, x]; } fn main(): int { " + text + " return 0; }"
}

// Promise 13.1: what is done is done in the same order.
func TestOrder(t *testing.T) {
	halts := map[string][]int64{
		"print n(1) - n(2) * n(3);":                        {1, 2, 3, -5},
		"print n(input) - n(input) - n(input);":            {5, 0, 1, 4},
		"r(3)[n(1)] = n(7);":                               {3, 1, 7},
		"m(3)[n(1), n(2)] = n(7);":                         {3, 1, 2, 7},
		"print m(3)[n(1), n(2)];":                          {3, 1, 2, 0},
		"var a = new [n(3)]; var c = new [n(1), n(2)];":    {3, 1, 2},
		"for i = n(1) to n(3) { print i; }":                {1, 3, 1, 2},
		"print b(true) && b(false);":                       {1, 0, 0},
		"print b(false) && b(true);":                       {0, 0},
		"print b(true) || b(false);":                       {1, 1},
		"print b(false) || b(true);":                       {0, 1, 1},
		"print b(false) && b(true) || b(true) && b(true);": {0, 1, 1, 1},
		"if b(true) { print 7; } else { print 8; }":        {1, 7},
		"var i = 0; while b(i < 2) { i = i + 1; }":         {1, 1, 0},
	}
	for text, events := range halts {
		seen(t, with(text), api.EndHalt, 0, events...)
	}
}

// Promise 13.1: each check ends the run where the tree's does, and by the same trap.
func TestTraps(t *testing.T) {
	for _, c := range []struct {
		text   string
		trap   int64
		events []int64
	}{
		{"print n(1) / n(0); print 9;", api.TrapDivide, []int64{1, 0}},
		{"print n(1) % n(0) + n(3);", api.TrapDivide, []int64{1, 0}},
		{"r(2)[n(2)] = n(7);", api.TrapIndex, []int64{2, 2, 7}},
		{"r(2)[n(-1)] = n(7);", api.TrapIndex, []int64{2, -1, 7}},
		{"r(2)[2] = 1 / n(0);", api.TrapDivide, []int64{2, 0}},
		{"print r(2)[n(2)] / n(0);", api.TrapIndex, []int64{2, 2}},
		{"print r(0)[0];", api.TrapIndex, []int64{0}},
		{"m(2)[n(2), n(0)] = n(7);", api.TrapIndex, []int64{2, 2, 0, 7}},
		{"m(2)[n(0), n(2)] = n(7);", api.TrapIndex, []int64{2, 0, 2, 7}},
		{"print m(2)[n(-1), n(2)];", api.TrapIndex, []int64{2, -1, 2}},
		{"print m(2)[n(1), n(-1)];", api.TrapIndex, []int64{2, 1, -1}},
		{"var a = new [n(-1)]; print 9;", api.TrapLength, []int64{-1}},
		{"var a = new [n(65537)];", api.TrapLength, []int64{65537}},
		{"var a = new [n(65537), n(0)];", api.TrapLength, []int64{65537, 0}},
		{"var a = new [n(0), n(65537)];", api.TrapLength, []int64{0, 65537}},
		{"var a = new [n(-1), n(0)];", api.TrapLength, []int64{-1, 0}},
		{"var a = new [n(0), n(-1)];", api.TrapLength, []int64{0, -1}},
		{"var a = new [n(257), n(256)];", api.TrapLength, []int64{257, 256}},
		{"var a = new [n(-9223372036854775808), n(2)];", api.TrapLength, []int64{-1 << 63, 2}},
		{"var a = new [1 << 32, 1 << 32];", api.TrapLength, nil},
		{"print input + input + input + n(4) + input;", api.TrapInput, []int64{4}},
		{"print true || 1 / 0 == 1; print false || 1 / 0 == 1;", api.TrapDivide, []int64{1}},
	} {
		seen(t, with(c.text), api.EndTrap, c.trap, c.events...)
	}
}

// Promise 13.1: what may be at the edges of the checks is done.
func TestEdges(t *testing.T) {
	for text, events := range map[string][]int64{
		"var a = new [65536]; a[65535] = 3; print a[65535] + len(a);":                                                   {65539},
		"var a = new [0]; print len(a);":                                                                                {0},
		"var a = new [65536, 1]; a[65535, 0] = 3; print a[65535, 0]; print rows(a) - cols(a);":                          {3, 65535},
		"var a = new [1, 65536]; a[0, 65535] = 3; print a[0, 65535]; print rows(a) - cols(a);":                          {3, -65535},
		"var a = new [256, 256]; a[255, 255] = 3; print a[255, 255];":                                                   {3},
		"var a = new [0, 65536]; print rows(a); print cols(a);":                                                         {0, 65536},
		"var a = new [65536, 0]; print rows(a); print cols(a);":                                                         {65536, 0},
		"var a = new [2, 3]; a[0, 2] = 1; a[1, 0] = 2; print a[0, 2] * 10 + a[1, 0];":                                   {12},
		"var a = new [3, 2]; for i = 0 to 3 { for j = 0 to 2 { a[i, j] = 10 * i + j; } } print a[2, 1]; print a[1, 0];": {21, 10},
		"print -9223372036854775808 / -1; print -9223372036854775808 % -1; print -7 / 2; print -7 % 2;":                 {-1 << 63, 0, -3, -1},
		"for i = 0 to 10 step 4 { print i; } for i = 10 to 0 step -4 { print i; }":                                      {0, 4, 8, 10, 6, 2},
		"for i = 3 to 3 { print i; } for i = 4 to 3 { print i; } for i = 3 to 4 step -1 { print i; }":                   {},
	} {
		seen(t, with(text), api.EndHalt, 0, events...)
	}
	// The number that counts goes round.
	seen(t, "fn main(): int { var n = 0; for i = 9223372036854775806 to 9223372036854775807 step 5 { n = n + 1; if n == 3 { return i; } } return n; }", api.EndHalt, -9223372036854775800)
}

// Promise 13.1: variables are what they were set to by the way that was gone.
func TestVariables(t *testing.T) {
	for text, events := range map[string][]int64{
		"var x = 1; if b(true) { x = 2; } else { print x; } print x;":                                                                                    {1, 2},
		"var x = 1; if b(false) { x = 2; } else { print x; x = 3; } print x;":                                                                            {0, 1, 3},
		"var x = 1; if b(false) { x = 2; if b(true) { x = 4; } } else { print x; } print x;":                                                             {0, 1, 1},
		"var x = 1; var y = 2; for i = 0 to 3 { var z = x; x = y; y = z; } print x; print y;":                                                            {2, 1},
		"var x = 1; while x < 50 { x = x * 2; if x == 16 { break; } } print x;":                                                                          {16},
		"var x = 0; for i = 0 to 10 { if i & 1 == 1 { continue; } x = x + i; } print x;":                                                                 {20},
		"var x = 0; var f = false; for i = 0 to 10 { for j = 0 to 10 { if i * j == 42 { f = true; x = i; break; } } if f { break; } } print x; print f;": {6, 1},
		"var x = 0; for i = 0 to 3 { var x = i; x = x + 1; print x; } print x;":                                                                          {1, 2, 3, 0},
		"var x = 0; var i = 7; for i = 0 to 3 { x = x + i; } print x; print i;":                                                                          {3, 7},
		"var x = 0; while true { x = x + 1; if x < 5 { continue; } if x > 7 { break; } print x; } print x;":                                              {5, 6, 7, 8},
		"var a = new [2]; var c = a; for i = 0 to 2 { c[0] = c[0] + 1; c = new [2]; c[0] = 5; } print a[0]; print c[0];":                                 {1, 5},
		"var p = true; var q = false; for i = 0 to 3 { p = p && i < 1 || q; q = !q && p; print p; print q; }":                                            {1, 1, 1, 0, 0, 0},
	} {
		seen(t, with(text), api.EndHalt, 0, events...)
	}
}

// Promise 13.1: calls within one another have variables of their own.
func TestCalls(t *testing.T) {
	seen(t, "fn main(): int { return fib(15); } fn fib(n: int): int { if n < 2 { return n; } var a = fib(n - 1); return a + fib(n - 2); }", api.EndHalt, 610)
	seen(t, "fn even(n: int): bool { return n == 0 || odd(n - 1); } fn odd(n: int): bool { return n != 0 && even(n - 1); } fn main(): int { print even(50); print odd(50); return 0; }", api.EndHalt, 0, 1, 0)
	seen(t, "fn fill(a: [int], n: int) { if n == len(a) { return; } a[n] = n; fill(a, n + 1); } fn main(): int { var a = new [40]; fill(a, 0); return a[39]; }", api.EndHalt, 39)
	seen(t, "fn set(x: int, y: bool): int { if y { x = x + 1; } return x; } fn main(): int { var x = 3; print set(x, true); print set(x, false); return x; }", api.EndHalt, 3, 4, 3)
}

// Promise 13.1: a run that does not end prints the same as long as it goes.
func TestNoEnd(t *testing.T) {
	for _, text := range []string{
		"fn main(): int { var x = 0; while true { print x; x = x + 3; } return 0; }",
		"fn main(): int { for i = 0 to 5 step -1 { print i; } for i = 0 to 5 { while true { print i; } } return 0; }",
		"fn main(): int { f(0); return 0; } fn f(x: int) { print x; f(x + 1); }",
		"fn main(): int { while true { } return 0; }",
	} {
		got := both(t, text, 3000)
		if got.End != api.EndFuel || len(got.Events) < 100 && strings.Contains(text, "print") {
			t.Errorf("%s: %+v", text, got)
		}
	}
}

// Promise 13.1: with many functions calls go to the right ones.
func TestManyFunctions(t *testing.T) {
	text := ""
	for i := range api.MostFns - 1 {
		text += "fn f" + strconv.Itoa(i) + "(x: int): int { return x * 3 + " + strconv.Itoa(i) + "; }\n"
	}
	seen(t, text+"fn main(): int { print f0(f7(f254(1))); return f100(f200(2)); }", api.EndHalt, 3*206+100, 3*(3*257+7))
}
