package interp

import (
	"math"
	"reflect"
	"testing"

	"distaff/api"
	"distaff/check"
	"distaff/parse"
	"distaff/tree"
)

const plenty = 1 << 20

// program is the checked program of a text.
func program(t testing.TB, text string) api.Tree {
	t.Helper()
	p, fault := parse.Parse(text)
	if fault.Kind == api.FaultNone {
		p, fault = check.Check(p)
	}
	if fault.Kind != api.FaultNone {
		t.Fatalf("fault %v of %s", fault, text)
	}
	return p
}

func run(t testing.TB, text string, fuel int64, in ...int64) api.Seen {
	t.Helper()
	return Run(program(t, text), in, fuel)
}

// same holds two runs against each other; lists that are nil and empty are the same.
func same(a, b api.Seen) bool {
	if len(a.Events)+len(b.Events) == 0 {
		a.Events, b.Events = nil, nil
	}
	return reflect.DeepEqual(a, b)
}

// body is a program whose main has such statements, and then comes to 0.
func body(text string) string { return "fn main(): int { " + text + " return 0; }" }

func list(n ...int64) []int64 { return n }

func halt(value int64, events ...int64) api.Seen {
	return api.Seen{End: api.EndHalt, Value: value, Events: events, Deep: 1}
}

func trapped(which int64, events ...int64) api.Seen {
	return api.Seen{End: api.EndTrap, Value: which, Events: events, Deep: 1}
}

// made tells how many cells a run makes, and how often rows.
func made(s api.Seen, cells, rows int64) api.Seen {
	s.Cells, s.Rows = cells, rows
	return s
}

func deep(s api.Seen, deep int64) api.Seen {
	s.Deep = deep
	return s
}

// each runs programs to their ends. How much fuel they take is asked elsewhere.
func each(t *testing.T, want map[string]api.Seen, in ...int64) {
	t.Helper()
	for text, w := range want {
		got := run(t, text, plenty, in...)
		if got.Used <= 0 || got.Used > plenty {
			t.Errorf("%s: used %d", text, got.Used)
		}
		got.Used = 0
		if !same(got, w) {
			t.Errorf("%s: %+v, not %+v", text, got, w)
		}
	}
}

// Promise 6.1: the chapter's example.
func TestExample(t *testing.T) {
	got := run(t, "fn main(): int { print 7; return 1 / 0; }", plenty)
	if want := (api.Seen{Events: list(7), End: api.EndTrap, Value: api.TrapDivide, Used: 6, Deep: 1}); !same(got, want) {
		t.Errorf("%+v, not %+v", got, want)
	}
}

// Promise 6.1: expressions.
func TestExpressions(t *testing.T) {
	each(t, map[string]api.Seen{
		body("print 0; print 18446744073709551615; print 9223372036854775808;"):                halt(0, 0, -1, math.MinInt64),
		body("print true; print false; print !true; print !false;"):                            halt(0, 1, 0, 0, 1),
		body("print -5; print ~5; print --5; print -9223372036854775808;"):                     halt(0, -5, -6, 5, math.MinInt64),
		body("print 7 + 5; print 7 - 12; print 7 * -5;"):                                       halt(0, 12, -5, -35),
		body("print 9223372036854775807 + 1;"):                                                 halt(0, math.MinInt64),
		body("print 9223372036854775807 * 2;"):                                                 halt(0, -2),
		body("print -7 / 2; print -7 % 2; print 7 / -2; print 7 % -2;"):                        halt(0, -3, -1, -3, 1),
		body("print 9223372036854775808 / -1; print 9223372036854775808 % -1;"):                halt(0, math.MinInt64, 0),
		body("print 12 & 10; print 12 | 10; print 12 ^ 10;"):                                   halt(0, 8, 14, 6),
		body("print 1 << 65; print -16 >> 2; print -1 >>> 60; print 1 << -1;"):                 halt(0, 2, -4, 15, math.MinInt64),
		body("print 1 == 1; print 1 != 1; print true == false; print true != false;"):          halt(0, 1, 0, 0, 1),
		body("print -1 < 0; print 0 <= 0; print 1 > 1; print 1 >= 1; print -1 > 0;"):           halt(0, 1, 1, 0, 1, 0),
		body("print 10 - 3 - 2; print 2 + 3 * 4; print (2 + 3) * 4; print 100 / 5 / 2;"):       halt(0, 5, 14, 20, 10),
		body("print true && true; print true && false; print false || true; print 1<2||2<1;"):  halt(0, 1, 0, 1, 1),
		body("print false && 1 / 0 == 0; print true || 1 / 0 == 0;"):                           halt(0, 0, 1),
		body("print false && 1 / 0 == 0 || true; print (true || 1 / 0 == 0) && false;"):        halt(0, 1, 0),
		body("print true && 1 / 0 == 0;"):                                                      trapped(api.TrapDivide),
		body("print false || 1 % 0 == 0;"):                                                     trapped(api.TrapDivide),
		body("print 5 / 0;"):                                                                   trapped(api.TrapDivide),
		body("print 0 % 0;"):                                                                   trapped(api.TrapDivide),
		"fn main(): int { return 18446744073709551615; }":                                      halt(-1),
		"fn b(n: int): bool { print n; return n > 0; } fn main(): int { b(1); return 3; }":     deep(halt(3, 1), 2),
		"fn b(n: int): bool { print n; return n > 0; }" + body("print b(0) && b(1) || b(2);"):  deep(halt(0, 0, 2, 1), 2),
		"fn b(n: int): bool { print n; return n > 0; }" + body("print (b(3)||b(4)) && b(-5);"): deep(halt(0, 3, -5, 0), 2),
	})
}

// Promise 6.1: expressions are done from the left, kids ahead of what they are of.
func TestOrder(t *testing.T) {
	f := "fn f(n: int): int { print n; return n; } fn r(n: int): [int] { print n; return new [n]; } fn m(n: int): [[int]] { print n; return new [n, n]; } fn g(a: int, b: int, c: int): int { print 9; return a - b - c; } "
	each(t, map[string]api.Seen{
		f + body("print f(1) - f(2);"):                                         deep(halt(0, 1, 2, -1), 2),
		f + body("print g(f(1), f(2), f(3));"):                                 deep(halt(0, 1, 2, 3, 9, -4), 2),
		f + body("print f(1) / (f(2) - f(2));"):                                deep(trapped(api.TrapDivide, 1, 2, 2), 2),
		f + body("print r(3)[f(1)];"):                                          made(deep(halt(0, 3, 1, 0), 2), 3, 1),
		f + body("print m(3)[f(1), f(2)];"):                                    made(deep(halt(0, 3, 1, 2, 0), 2), 9, 1),
		f + body("print m(3)[f(4), f(2)];"):                                    made(deep(trapped(api.TrapIndex, 3, 4, 2), 2), 9, 1),
		f + body("new1(new [f(-1), f(-2)]);") + n1:                             deep(trapped(api.TrapLength, -1, -2), 2),
		f + body("r(3)[f(1)] = f(5); print 6;"):                                made(deep(halt(0, 3, 1, 5, 6), 2), 3, 1),
		f + body("r(3)[f(4)] = f(5); print 6;"):                                made(deep(trapped(api.TrapIndex, 3, 4, 5), 2), 3, 1),
		f + body("m(2)[f(4), f(-1)] = f(5); print 6;"):                         made(deep(trapped(api.TrapIndex, 2, 4, -1, 5), 2), 4, 1),
		f + body("m(2)[f(1), f(2)] = f(5) / f(0);"):                            made(deep(trapped(api.TrapDivide, 2, 1, 2, 5, 0), 2), 4, 1),
		f + body("m(2)[f(1), f(0)] = f(5); print 6;"):                          made(deep(halt(0, 2, 1, 0, 5, 6), 2), 4, 1),
		f + body("for i = f(1) to f(3) { print i; }"):                          deep(halt(0, 1, 3, 1, 2), 2),
		f + body("while f(1) > f(2) { } if f(3) > f(4) { } else { print 0; }"): deep(halt(0, 1, 2, 3, 4, 0), 2),
	})
}

const n1 = " fn new1(a: [[int]]) { }"

// Promise 6.1: statements, variables and blocks.
func TestStatements(t *testing.T) {
	each(t, map[string]api.Seen{
		body("var a = 1; var b = a + 1; a = b * 10; print a; print b;"):                                          halt(0, 20, 2),
		body("var a = 1; if true { var a = a + 1; print a; a = 7; print a; } print a;"):                          halt(0, 2, 7, 1),
		body("var a = 1; if a == 1 { print 1; } else { print 2; } if a == 2 { print 3; }"):                       halt(0, 1),
		body("var a = 3; if a == 1 { print 1; } else if a == 2 { print 2; } else { print a; }"):                  halt(0, 3),
		body("if true { var a = 1; var b = 2; print a + b; } else { var c = 9; print c; } var d = 4; print d;"):  halt(0, 3, 4),
		body("if false { var a = 1; var b = 2; print a + b; } else { var c = 9; print c; } var d = 4; print d;"): halt(0, 9, 4),
		body("var n = 3; while n > 0 { print n; n = n - 1; }"):                                                   halt(0, 3, 2, 1),
		body("while false { print 1; }"): halt(0),
		body("var n = 0; while true { n = n + 1; var k = n; if k == 2 { continue; } if k == 4 { break; } print k; }"):                     halt(0, 1, 3),
		body("var n = 1; while n < 100 { var a = n; var b = a; n = a + b; } print n;"):                                                    halt(0, 128),
		"fn main(): int { var n = 0; while true { var a = n; if true { var b = a * a; if b > 50 { return b; } } n = n + 1; } return 0; }": halt(64),
		"fn main(): int { for i = 0 to 9 { for j = 0 to 9 { if i * j == 42 { return i * 10 + j; } } } return 0; }":                        halt(67),
		"fn main(): int { if 1 < 2 { return 5; } else { return 6; } }":                                                                    halt(5),
		"fn main(): int { return 5; print 1; return 6; }":                                                                                 halt(5),
	})
}

// Promise 6.1: loops that count.
func TestCounting(t *testing.T) {
	each(t, map[string]api.Seen{
		body("for i = 0 to 3 { print i; }"):                                                              halt(0, 0, 1, 2),
		body("for i = 3 to 3 { print i; } for i = 4 to 3 { print i; }"):                                  halt(0),
		body("for i = 0 to 7 step 3 { print i; }"):                                                       halt(0, 0, 3, 6),
		body("for i = 3 to 0 step -1 { print i; }"):                                                      halt(0, 3, 2, 1),
		body("for i = 3 to 3 step -1 { print i; } for i = 2 to 3 step -1 { print i; }"):                  halt(0),
		body("for i = 7 to -1 step -4 { print i; }"):                                                     halt(0, 7, 3),
		body("var n = 3; for i = 0 to n { n = n + 1; print i; } print n;"):                               halt(0, 0, 1, 2, 6),
		body("var n = 1; for i = n to n + 2 { n = 9; print i; } print n;"):                               halt(0, 1, 2, 9),
		body("for i = 0 to 3 { for i = i to i + 2 { print i; } print i; }"):                              halt(0, 0, 1, 0, 1, 2, 1, 2, 3, 2),
		body("for i = 0 to 2 { var i = i + 10; print i; i = 77; }"):                                      halt(0, 10, 11),
		body("for i = 0 to 5 { if i == 1 { continue; } if i == 3 { break; } print i; }"):                 halt(0, 0, 2),
		body("for i = 0 to 3 { var a = i; if a == 1 { var b = a; continue; } print a; }"):                halt(0, 0, 2),
		body("for i = 0 to 3 { var a = i; if a == 1 { var b = a; break; } } var c = 5; print c;"):        halt(0, 5),
		body("for i = 0 to 3 { for j = 0 to 3 { if j == 1 { break; } print i; } if i == 1 { break; } }"): halt(0, 0, 1),
		body("for i = 0 to 2 { for j = 0 to 3 { if j == 1 { continue; } print j; } print 10 + i; }"):     halt(0, 0, 2, 10, 0, 2, 11),
		body("for i = 9223372036854775806 to 9223372036854775807 { print i; }"):                          halt(0, math.MaxInt64-1),
		body("for i = 9223372036854775809 to 9223372036854775808 step -1 { print i; }"):                  halt(0, math.MinInt64+1),
		// Of steps the bits are told: this one is below 0.
		body("for i = 2 to 0 step 18446744073709551615 { print i; }"): halt(0, 2, 1),
		// The sum goes round, and the variable is below the second number again.
		body("for i = 9223372036854775806 to 9223372036854775807 step 2 { print i; if i < 0 { break; } }"):    halt(0, math.MaxInt64-1, math.MinInt64),
		body("for i = -9223372036854775807 to -9223372036854775808 step -2 { print i; if i > 0 { break; } }"): halt(0, -math.MaxInt64, math.MaxInt64),
		body("for i = 0 to 1 step 9223372036854775808 { print i; }"):                                          halt(0),
		body("for i = 1 to 0 step -9223372036854775808 { print i; }"):                                         halt(0, 1),
	})
}

// Promise 6.1: calls.
func TestCalls(t *testing.T) {
	each(t, map[string]api.Seen{
		"fn main(): int { return f(); } fn f(): int { return 8; }":                                                                                                                 deep(halt(8), 2),
		"fn f(n: int): int { if n < 2 { return 1; } return n * f(n - 1); } fn main(): int { return f(5); }":                                                                        deep(halt(120), 6),
		"fn f(n: int): int { if n < 2 { return n; } return f(n - 1) + f(n - 2); } fn main(): int { return f(10); }":                                                                deep(halt(55), 11),
		"fn e(n: int): bool { if n == 0 { return true; } return o(n - 1); } fn o(n: int): bool { if n == 0 { return false; } return e(n - 1); }" + body("print e(7); print o(7);"): deep(halt(0, 0, 1), 9),
		"fn f(a: int) { a = a + 1; print a; }" + body("var a = 1; f(a); print a;"):                                                                                                 deep(halt(0, 2, 1), 2),
		"fn f() { print 1; return; }" + body("f(); f();"):                                                                                                                          deep(halt(0, 1, 1), 2),
		"fn f() { }" + body("f();"): deep(halt(0), 2),
		"fn f(n: int) { if n > 0 { return; } print n; }" + body("f(1); f(0);"):                                                                      deep(halt(0, 0), 2),
		"fn f(n: int) { while true { var a = n; for i = 0 to 9 { if i == a { return; } print i; } } }" + body("f(2); print 5;"):                     deep(halt(0, 0, 1, 5), 2),
		"fn f(n: int): int { var a = n * n; return a; }" + body("var a = 2; var b = f(a) + f(3) * f(a + 2); print a; print b;"):                     deep(halt(0, 2, 4+9*16), 2),
		"fn f(a: int, b: bool, c: [int], d: [[int]]): int { return a + c[0] + d[0, 0] + len(c); }" + body("print f(1, true, new [2], new [1, 1]);"): made(deep(halt(0, 3), 2), 3, 2),
		"fn main(): int { if input > 0 { return main() + 1; } return 0; }":                                                                          deep(halt(2), 3),
		"fn id(n: int): int { return n; }" + body("print id(id(id(1))) + id(2);"):                                                                   deep(halt(0, 3), 2),
	}, 1, 1, 0)
}

// Promise 6.1: rows are things that variables, arguments and calls hand on.
func TestRows(t *testing.T) {
	each(t, map[string]api.Seen{
		body("var a = new [3]; print len(a); print a[0]; print a[2]; a[1] = 5; print a[1]; print a[0];"):                                             made(halt(0, 3, 0, 0, 5, 0), 3, 1),
		body("var a = new [2, 3]; print rows(a); print cols(a); a[1, 2] = 5; print a[1, 2]; print a[0, 2];"):                                         made(halt(0, 2, 3, 5, 0), 6, 1),
		body("var a = new [3, 2]; for i = 0 to 3 { for j = 0 to 2 { a[i, j] = i * 10 + j; } } for i = 0 to 3 { for j = 0 to 2 { print a[i, j]; } }"): made(halt(0, 0, 1, 10, 11, 20, 21), 6, 1),
		body("var a = new [0]; print len(a); var b = new [0, 5]; print rows(b); print cols(b); var c = new [5, 0]; print rows(c); print cols(c);"):   made(halt(0, 0, 0, 5, 5, 0), 0, 3),
		body("var a = new [2]; var b = a; b[0] = 1; print a[0]; a = new [1]; print len(b); print a[0]; b[1] = 4; print b[1];"):                       made(halt(0, 1, 2, 0, 4), 3, 2),
		body("var a = new [2]; a[a[0] + 1] = 7; a[0] = a[1] + a[1]; print a[0];"):                                                                    made(halt(0, 14), 2, 1),
		body("for i = 0 to 3 { var a = new [2]; print a[0]; a[0] = 9; }"):                                                                            made(halt(0, 0, 0, 0), 6, 3),
		"fn f(a: [int]) { a[0] = 3; a = new [1]; a[0] = 4; }" + body("var a = new [1]; f(a); print a[0];"):                                           made(deep(halt(0, 3), 2), 2, 2),
		"fn f(a: [[int]]): [[int]] { return a; }" + body("var a = new [1, 1]; f(a)[0, 0] = 6; print a[0, 0];"):                                       made(deep(halt(0, 6), 2), 1, 1),
		"fn f(): [int] { var a = new [1]; a[0] = 2; return a; }" + body("var a = f(); var b = f(); a[0] = 5; print b[0];"):                           made(deep(halt(0, 2), 2), 2, 2),
		body("print new [4][3]; print len(new [4]); print cols(new [4, 2]); print rows(new [4, 2]);"):                                                made(halt(0, 0, 4, 2, 4), 24, 4),
	})
}

// Promise 6.1: an index that is not there.
func TestTrapIndex(t *testing.T) {
	row, rows := "var a = new [3]; print 1; ", "var a = new [2, 3]; print 1; "
	for _, at := range []string{"-1", "3", "9223372036854775807", "-9223372036854775808"} {
		each(t, map[string]api.Seen{
			body(row + "print a[" + at + "];"):       made(trapped(api.TrapIndex, 1), 3, 1),
			body(row + "a[" + at + "] = 1;"):         made(trapped(api.TrapIndex, 1), 3, 1),
			body(rows + "print a[0, " + at + "];"):   made(trapped(api.TrapIndex, 1), 6, 1),
			body(rows + "a[1, " + at + "] = 1;"):     made(trapped(api.TrapIndex, 1), 6, 1),
			body(rows + "print a[" + at + ", 0];"):   made(trapped(api.TrapIndex, 1), 6, 1),
			body(rows + "a[" + at + ", 0] = 1 / 1;"): made(trapped(api.TrapIndex, 1), 6, 1),
		})
	}
	each(t, map[string]api.Seen{
		// The cell would be one of the thing, but not by this row and column.
		body(rows + "print a[1, -1];"):                  made(trapped(api.TrapIndex, 1), 6, 1),
		body(rows + "print a[2, -3];"):                  made(trapped(api.TrapIndex, 1), 6, 1),
		body(rows + "print a[-1, 3];"):                  made(trapped(api.TrapIndex, 1), 6, 1),
		body("print new [0][0];"):                       made(trapped(api.TrapIndex), 0, 1),
		body("print new [0, 3][0, 0];"):                 made(trapped(api.TrapIndex), 0, 1),
		body("print new [3, 0][0, 0];"):                 made(trapped(api.TrapIndex), 0, 1),
		body("var a = new [2]; a[2] = 1 / 0;"):          made(trapped(api.TrapDivide), 2, 1),
		body("var a = new [2]; a[0] = 5; a[5] = a[7];"): made(trapped(api.TrapIndex), 2, 1),
	})
}

// Promise 6.1: a length that may not be, at MostCells and around.
func TestTrapLength(t *testing.T) {
	each(t, map[string]api.Seen{
		body("print len(new [65536]);"):                                   made(halt(0, 65536), 65536, 1),
		body("print new [65536][65535];"):                                 made(halt(0, 0), 65536, 1),
		body("print cols(new [1, 65536]);"):                               made(halt(0, 65536), 65536, 1),
		body("print rows(new [65536, 1]);"):                               made(halt(0, 65536), 65536, 1),
		body("print rows(new [256, 256]);"):                               made(halt(0, 256), 65536, 1),
		body("print rows(new [65536, 0]);"):                               made(halt(0, 65536), 0, 1),
		body("print cols(new [0, 65536]);"):                               made(halt(0, 65536), 0, 1),
		body("print cols(new [21845, 3]);"):                               made(halt(0, 3), 65535, 1),
		body("print cols(new [3, 21846]);"):                               trapped(api.TrapLength),
		body("print rows(new [257, 256]);"):                               trapped(api.TrapLength),
		body("print rows(new [65536, 65536]);"):                           trapped(api.TrapLength),
		body("print len(new [65537]);"):                                   trapped(api.TrapLength),
		body("print len(new [-1]);"):                                      trapped(api.TrapLength),
		body("print len(new [9223372036854775807]);"):                     trapped(api.TrapLength),
		body("print len(new [-9223372036854775808]);"):                    trapped(api.TrapLength),
		body("print rows(new [65537, 0]);"):                               trapped(api.TrapLength),
		body("print rows(new [0, 65537]);"):                               trapped(api.TrapLength),
		body("print rows(new [-1, 0]);"):                                  trapped(api.TrapLength),
		body("print rows(new [0, -1]);"):                                  trapped(api.TrapLength),
		body("print rows(new [-1, -1]);"):                                 trapped(api.TrapLength),
		body("print rows(new [4294967296, 4294967296]);"):                 trapped(api.TrapLength),
		body("print rows(new [9223372036854775808, 2]);"):                 trapped(api.TrapLength),
		body("print 1; var a = new [3]; print 2; a = new [-3]; print 3;"): made(trapped(api.TrapLength, 1, 2), 3, 1),
	})
}

// Promise 6.1: input reads numbers in order, as long as there are any.
func TestInput(t *testing.T) {
	text := body("print input - input; while true { print input; }")
	each(t, map[string]api.Seen{text: trapped(api.TrapInput, 7, math.MinInt64, math.MaxInt64)}, 10, 3, math.MinInt64, math.MaxInt64)
	each(t, map[string]api.Seen{text: trapped(api.TrapInput)}, 10)
	each(t, map[string]api.Seen{text: trapped(api.TrapInput), body(""): halt(0)})
	each(t, map[string]api.Seen{"fn main(): int { return input; }": halt(4)}, 4, 5)
	each(t, map[string]api.Seen{"fn f(): int { return input; }" + body("print f() * 10 + f();"): deep(halt(0, 45), 2)}, 4, 5)
}

// Promise 6.1: without main nothing is seen but that.
func TestNoMain(t *testing.T) {
	stuck := api.Seen{End: api.EndStuck}
	for _, p := range []api.Tree{{}, {Fns: []api.Fn{{Name: "f", Ret: api.TypeInt}}}, {Fns: []api.Fn{{Name: "Main"}, {Name: ""}}}} {
		for _, fuel := range list(-1, 0, 100) {
			if got := Run(p, list(1), fuel); !same(got, stuck) {
				t.Errorf("%v: %+v", p, got)
			}
		}
	}
}

// Promise 6.1: main may stand anywhere.
func TestWhereMainStands(t *testing.T) {
	fns := []string{"fn a(): int { return b() * 10; } ", "fn main(): int { return a() + b(); } ", "fn b(): int { return 4; } "}
	for _, order := range [][]int{{0, 1, 2}, {1, 0, 2}, {2, 0, 1}, {2, 1, 0}} {
		text := fns[order[0]] + fns[order[1]] + fns[order[2]]
		each(t, map[string]api.Seen{text: deep(halt(44), 3)})
	}
}

// Rule R2: what is handed in stays as it is, and what was answered is the caller's own.
func TestOwn(t *testing.T) {
	p := program(t, "fn f(n: int): int { print n; return n + 1; } fn main(): int { var a = new [3]; a[0] = f(input); a[1] = f(input); print a[0] + a[1]; return 0; }")
	text, in := tree.Print(p), list(5, 6)
	again := program(t, text)
	first := Run(p, in, plenty)
	first.Events[0] = 99
	_ = append(first.Events, 98)
	second := Run(p, in, plenty)
	if !reflect.DeepEqual(second.Events, list(5, 6, 13)) || !reflect.DeepEqual(in, list(5, 6)) {
		t.Errorf("%v of %v", second.Events, in)
	}
	in[0] = 70
	if !reflect.DeepEqual(second.Events, list(5, 6, 13)) {
		t.Errorf("%v", second.Events)
	}
	if !tree.Same(p, again) || tree.Print(p) != text {
		t.Errorf("the program was changed: %s", tree.Print(p))
	}
}

// LANGUAGE, rule 4: a tree that Check would not tell breaks nothing.
func TestUnchecked(t *testing.T) {
	main := func(l ...api.Stmt) api.Tree {
		return api.Tree{Fns: []api.Fn{{Name: "main", Ret: api.TypeInt, Body: l}}}
	}
	name := api.Expr{Kind: api.ExprName, S: "x", N: 7}
	one := api.Expr{Kind: api.ExprInt, N: 1}
	var l []api.Tree
	for kind := -1; kind <= api.StmtCall+1; kind++ {
		l = append(l, main(api.Stmt{Kind: kind}), main(api.Stmt{Kind: kind, Kids: []api.Expr{name, name}}), main(api.Stmt{Kind: kind, Kids: []api.Expr{one}}))
	}
	for kind := -1; kind <= api.ExprInput+1; kind++ {
		for _, n := range list(-1, 0, 1, math.MaxInt64, math.MinInt64) {
			l = append(l, main(api.Stmt{Kind: api.StmtPrint, Kids: []api.Expr{{Kind: kind, N: n}}}))
			l = append(l, main(api.Stmt{Kind: api.StmtReturn, Kids: []api.Expr{{Kind: kind, N: n, Kids: []api.Expr{one}}}}))
			l = append(l, main(api.Stmt{Kind: api.StmtVar, Kids: []api.Expr{{Kind: kind, N: n, Op: 99, Kids: []api.Expr{name, one, one, one}}}}))
		}
	}
	for _, p := range l {
		if got := Run(p, list(1), 1000); got.Used < 0 || got.Used > 1000 || got.End == api.EndStuck && !same(got, api.Seen{End: api.EndStuck}) {
			t.Errorf("%+v: %+v", p, got)
		}
	}
	if got := Run(main(api.Stmt{Kind: api.StmtBreak}), nil, 1000); !same(got, api.Seen{End: api.EndStuck}) {
		t.Errorf("%+v", got)
	}
	if got := Run(main(api.Stmt{Kind: api.StmtCall, Kids: []api.Expr{{Kind: api.ExprCall, S: "x", N: 5}}}), nil, 1000); !same(got, api.Seen{End: api.EndStuck}) {
		t.Errorf("%+v", got)
	}
}
