package interp

import (
	"math"
	"slices"
	"strconv"
	"strings"
	"testing"

	"distaff/api"
)

// Promise 6.1: how much fuel each thing takes, in the word behind it.
func TestUsed(t *testing.T) {
	// Of body the last two are those of return 0.
	for text, want := range map[string]int64{
		"fn main(): int { return 7; }":                                               2,
		"fn main(): int { return 1 + 2 * 3; }":                                       6,
		"fn main(): int { return -~1; }":                                             4,
		"fn main(): int { return f(); } fn f(): int { return 1; }":                   4,
		"fn main(): int { return f(1, 2); } fn f(a: int, b: int): int { return a; }": 6,
		"fn main(): int { return input; }":                                           2,
		body("print true;"):                                                          2 + 2,
		body("print !true;"):                                                         2 + 3,
		body("var a = 5;"):                                                           2 + 2,
		body("var a = 5; a = a;"):                                                    2 + 4,
		body("var a = 5; a = a + a;"):                                                2 + 6,
		body("print true && true;"):                                                  2 + 4,
		body("print false && true;"):                                                 2 + 3,
		body("print true || true;"):                                                  2 + 3,
		body("print false || true;"):                                                 2 + 4,
		body("print false && 1 / 0 == 0 || true;"):                                   2 + 5,
		body("print 1 < 2;"):                                                         2 + 4,
		body("if true { }"):                                                          2 + 2,
		body("if false { } else { print 1; }"):                                       2 + 4,
		body("if true { } else { print 1; }"):                                        2 + 2,
		body("if false { } else if true { print 1; }"):                               2 + 2 + 2 + 2,
		// new takes its cells more.
		body("var a = new [0];"):                           2 + 3,
		body("var a = new [5];"):                           2 + 3 + 5,
		body("var a = new [3, 4];"):                        2 + 4 + 12,
		body("var a = new [3, 0];"):                        2 + 4,
		body("var a = new [65536];"):                       2 + 3 + 65536,
		body("print len(new [2]);"):                        2 + 4 + 2,
		body("print rows(new [2, 2]) + cols(new [1, 1]);"): 2 + 2 + 4 + 4 + 4 + 1,
		body("print new [2][1];"):                          2 + 5 + 2,
		body("print new [2, 2][1, 0];"):                    2 + 7 + 4,
		// Of an index that is set, what is indexed, its numbers and what is put are reckoned, not the index.
		body("var a = new [2]; a[1] = 5;"):       2 + 5 + 4,
		body("var a = new [2]; a[1] = a[0];"):    2 + 5 + 6,
		body("var a = new [1, 2]; a[0, 1] = 5;"): 2 + 6 + 5,
		// Each round takes 1 behind its body; that loops go on is asked without fuel where they count.
		body("while false { }"):                             2 + 2,
		body("while false { print 1; }"):                    2 + 2,
		body("var n = 2; while n > 0 { n = n - 1; }"):       2 + 2 + 1 + 3*3 + 2*(4+1),
		body("for i = 0 to 0 { print i; }"):                 2 + 3,
		body("for i = 0 to 3 { }"):                          2 + 3 + 3,
		body("for i = 0 to 3 { print i; }"):                 2 + 3 + 3*(2+1),
		body("for i = 3 to 0 step -2 { print i; }"):         2 + 3 + 2*(2+1),
		body("for i = 0 to 2 { for j = 0 to 2 { } }"):       2 + 3 + 2*(3+2+1),
		body("while true { while true { break; } break; }"): 2 + 2 + 2 + 1 + 1,
		// break ends no round, continue does.
		body("while true { break; }"):                           2 + 2 + 1,
		body("for i = 0 to 3 { break; }"):                       2 + 3 + 1,
		body("for i = 0 to 3 { continue; }"):                    2 + 3 + 3*(1+1),
		body("for i = 0 to 3 { continue; print i; }"):           2 + 3 + 3*(1+1),
		body("var n = 2; while n > 0 { n = n - 1; continue; }"): 2 + 2 + 1 + 3*3 + 2*(4+1+1),
		"fn main(): int { while true { return 1; } return 0; }": 2 + 2,
		// A call takes what its function takes.
		"fn f() { }" + body("f();"):                               2 + 2,
		"fn f() { return; }" + body("f(); f();"):                  2 + 3 + 3,
		"fn f(n: int) { if n > 0 { f(n - 1); } }" + body("f(2);"): 2 + 3 + 3*4 + 2*(1+1+3),
	} {
		if got := run(t, text, plenty, 3); got.End != api.EndHalt || got.Used != want {
			t.Errorf("%s: %+v, not %d", text, got, want)
		}
	}
}

// Promise 6.1: a trap takes what was begun till then.
func TestUsedByTraps(t *testing.T) {
	for text, want := range map[string]int64{
		body("print 1; print 1 / 0;"):              2 + 4,
		body("print 1 + 1 / 0 + 1;"):               1 + 2 + 1 + 3,
		body("print input;"):                       2,
		body("print 2 * input;"):                   4,
		body("var a = new [3]; print a[3];"):       3 + 3 + 4,
		body("var a = new [3]; a[3] = 1 + 1;"):     3 + 3 + 6,
		body("var a = new [1, 1]; print a[0, 1];"): 4 + 1 + 5,
		// Of rows that may not be no cell is paid.
		body("var a = new [65537];"):                                    3,
		body("var a = new [65536, 2];"):                                 4,
		body("var a = new [-1];"):                                       4,
		body("while true { print 1 % 0; }"):                             2 + 4,
		"fn f(n: int): int { return n / 0; }" + body("print f(1) + 1;"): 4 + 4,
	} {
		if got := run(t, text, plenty); got.End != api.EndTrap || got.Used != want {
			t.Errorf("%s: %+v, not %d", text, got, want)
		}
	}
}

// all has each kind of expression and statement, loops of all kinds, and both kinds of rows.
const all = `
fn sum(a: [int], n: int): int { if n == 0 { return 0; } return a[n - 1] + sum(a, n - 1); }
fn even(n: int): bool { return n % 2 == 0; }
fn fill(m: [[int]]) { for i = 0 to rows(m) { for j = cols(m) - 1 to -1 step -1 { if i == j { continue; } m[i, j] = i - j; } } }
fn main(): int {
	var a = new [4];
	var n = 0;
	while true {
		var k = n;
		if k >= len(a) { break; } else { a[k] = input; }
		if even(k) || !even(a[k]) && true { print k; }
		n = n + 1;
	}
	print even(n) && false;
	var m = new [2, 3];
	fill(m);
	print m[1, 0] * 10 + m[0, 2];
	if m[0, 0] == 0 { } else if true { print -1; }
	print sum(a, n);
	fill(new [0, 0]);
	return ~n ^ a[2];
}`

// Promise 6.1: with less fuel a run ends with all of it used, and what was printed till then comes first in all that is printed; with more, all is the same.
func TestFuelOfEachSize(t *testing.T) {
	p, in := program(t, all), list(3, 1, 4, 1)
	whole := Run(p, in, plenty)
	if want := list(0, 1, 2, 3, 0, 8, 9); whole.End != api.EndHalt || whole.Value != ^4^4 || !slices.Equal(whole.Events, want) || whole.Deep != 6 || whole.Cells != 10 || whole.Rows != 3 {
		t.Fatalf("%+v", whole)
	}
	last := api.Seen{}
	for fuel := range whole.Used {
		got := Run(p, in, fuel)
		if got.End != api.EndFuel || got.Value != 0 || got.Used != fuel {
			t.Fatalf("%d: %+v", fuel, got)
		}
		n := len(got.Events)
		if n < len(last.Events) || n > len(whole.Events) || !slices.Equal(got.Events, whole.Events[:n]) {
			t.Fatalf("%d: %v of %v", fuel, got.Events, whole.Events)
		}
		if got.Deep < max(last.Deep, 1) || got.Deep > whole.Deep || got.Cells < last.Cells || got.Cells > whole.Cells || got.Rows < last.Rows || got.Rows > whole.Rows {
			t.Fatalf("%d: %+v behind %+v", fuel, got, last)
		}
		last = got
	}
	for _, fuel := range list(whole.Used, whole.Used+1, 1<<40, math.MaxInt64) {
		if got := Run(p, in, fuel); !same(got, whole) {
			t.Errorf("%d: %+v", fuel, got)
		}
	}
}

// Promise 6.1: where just so much fuel ends a run.
func TestWhereFuelEnds(t *testing.T) {
	call := "fn f(n: int): int { print n; return 1; }"
	for _, c := range []struct {
		text string
		fuel int64
		want api.Seen
	}{
		{"fn main(): int { return 7; }", 1, api.Seen{Deep: 1}},
		{"fn main(): int { return 7; }", 2, halt(7)},
		{body("print 5;"), 1, api.Seen{Deep: 1}},
		{body("print 5;"), 2, api.Seen{Events: list(5), Deep: 1}},
		{body("print 5;"), 3, api.Seen{Events: list(5), Deep: 1}},
		// The trap comes if all that is ahead of it is paid.
		{body("print 1 / 0;"), 3, api.Seen{Deep: 1}},
		{body("print 1 / 0;"), 4, trapped(api.TrapDivide)},
		{body("print input;"), 1, api.Seen{Deep: 1}},
		{body("print input;"), 2, trapped(api.TrapInput)},
		// Cells are paid all or none.
		{body("var a = new [3];"), 3, api.Seen{Deep: 1}},
		{body("var a = new [3];"), 5, api.Seen{Deep: 1}},
		{body("var a = new [3];"), 6, made(api.Seen{Deep: 1}, 3, 1)},
		{body("var a = new [65536];"), 65538, api.Seen{Deep: 1}},
		{body("var a = new [65536];"), 65539, made(api.Seen{Deep: 1}, 65536, 1)},
		{body("var a = new [0];"), 2, api.Seen{Deep: 1}},
		{body("var a = new [0];"), 3, made(api.Seen{Deep: 1}, 0, 1)},
		{body("var a = new [65537];"), 3, trapped(api.TrapLength)},
		{body("var a = new [2]; var b = new [3];"), 10, made(api.Seen{Deep: 1}, 2, 1)},
		// A call stands within another one behind its arguments, ahead of its first statement.
		{call + body("print f(3);"), 2, api.Seen{Deep: 1}},
		{call + body("print f(3);"), 3, api.Seen{Deep: 2}},
		{call + body("print f(3);"), 5, api.Seen{Events: list(3), Deep: 2}},
		// A round's end is paid behind its body.
		{body("for i = 0 to 2 { print i; }"), 5, api.Seen{Events: list(0), Deep: 1}},
		{body("for i = 0 to 2 { print i; }"), 7, api.Seen{Events: list(0), Deep: 1}},
		{body("for i = 0 to 2 { print i; }"), 8, api.Seen{Events: list(0, 1), Deep: 1}},
		{body("for i = 0 to 1 { print i; } print 1 / 0;"), 9, api.Seen{Events: list(0), Deep: 1}},
		{body("for i = 0 to 1 { print i; } print 1 / 0;"), 10, trapped(api.TrapDivide, 0)},
	} {
		c.want.Used = c.fuel
		if got := run(t, c.text, c.fuel); !same(got, c.want) {
			t.Errorf("%s with %d: %+v, not %+v", c.text, c.fuel, got, c.want)
		}
	}
}

// Promise 6.1: fuel below 0 counts as 0, with which main begins, and nothing else.
func TestNoFuel(t *testing.T) {
	for _, fuel := range list(0, -1, -100, math.MinInt64) {
		if got := run(t, body("print 1;"), fuel); !same(got, api.Seen{Deep: 1}) {
			t.Errorf("%d: %+v", fuel, got)
		}
	}
}

// Promise 6.1: what does not end ends with its fuel.
func TestEndless(t *testing.T) {
	const fuel = 300000
	for text, events := range map[string]int{
		body("while true { }"):                                       0,
		body("while true { continue; }"):                             0,
		body("while true { if true { continue; } else { break; } }"): 0,
		body("while true { print 1; }"):                              fuel / 4,
		body("for i = 0 to 9223372036854775807 { }"):                 0,
		body("while true { for i = 1 to 0 { } }"):                    0,
		body("while true { var a = new [100]; }"):                    0,
		body("while true { var a = new [0, 65536]; }"):               0,
	} {
		got := run(t, text, fuel)
		if got.End != api.EndFuel || got.Value != 0 || got.Used != fuel || len(got.Events) != events {
			t.Errorf("%s: end %d, used %d, %d events", text, got.End, got.Used, len(got.Events))
		}
	}
}

// Promise 6.1: calls stand as deep within one another as the fuel allows.
func TestDeep(t *testing.T) {
	const fuel = 1 << 23
	for text, want := range map[string]int64{
		"fn f() { f(); }" + body("f();"):                                                                    1 + fuel/2,
		"fn f(): int { return f(); }" + body("return f();"):                                                 1 + fuel/2,
		"fn f(a: int, b: [int]): int { return f(a, b) + 1; }" + body("f(1, new [0]);"):                      2 + (fuel-5)/5,
		"fn f(a: int): bool { var c = a; for i = c to c + 1 { if f(i) { } } return true; }" + body("f(1);"): 2 + (fuel-3)/10,
		"fn main(): int { return main(); }":                                                                 1 + fuel/2,
	} {
		got := run(t, text, fuel)
		if got.End != api.EndFuel || got.Used != fuel || got.Deep != want {
			t.Errorf("%s: %+v, not %d deep", text, got, want)
		}
	}
}

// Promise 6.1: a function may have as many variables as there may be, and call itself as often as the fuel allows: what a call does not come to takes no room.
func TestDeepWithManyVariables(t *testing.T) {
	const fuel = 1 << 20
	var many strings.Builder
	for i := range api.MostVars - 2 {
		many.WriteString("var v" + strconv.Itoa(i) + " = n; ")
	}
	for text, want := range map[string]int64{
		"fn f(n: int) { if n > 0 { f(n); } " + many.String() + "}" + body("f(1);"):               2 + (fuel-3)/7,
		"fn f(n: int) { if n < 0 { " + many.String() + "} var z = n; f(z); }" + body("f(1);"):    2 + (fuel-3)/9,
		"fn f(n: int) { for i = n to n { " + many.String() + "} f(n); }" + body("f(1);"):         2 + (fuel-3)/6,
		"fn f(n: int) { while n > 1 { " + many.String() + "} var z = n; f(z); }" + body("f(1);"): 2 + (fuel-3)/9,
	} {
		got := run(t, text, fuel)
		if got.End != api.EndFuel || got.Used != fuel || got.Deep != want {
			t.Errorf("%.60s..: %+v, not %d deep", text, got, want)
		}
	}
}
