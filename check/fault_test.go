package check

import (
	"strconv"
	"strings"
	"testing"

	"distaff/api"
)

// refusedAt asks for a fault at a place, and for nothing beside it.
func refusedAt(t *testing.T, s string, kind, at int) {
	t.Helper()
	p, fault := Check(parsed(t, s))
	if len(p.Fns) != 0 || fault != (api.Fault{Kind: kind, At: at}) {
		t.Errorf("%.400q (of %d bytes): %d functions, %v, not fault %d at %d", s, len(s), len(p.Fns), fault, kind, at)
	}
}

// refused asks for a fault where the mark $ stands, which is no part of the text.
func refused(t *testing.T, marked string, kind int) {
	t.Helper()
	at := strings.Index(marked, "$")
	refusedAt(t, marked[:at]+marked[at+1:], kind, at)
}

// Promise 5.1: faults of functions.

func TestFaultsOfFunctions(t *testing.T) {
	for _, s := range []string{
		"fn f() { } $fn f() { } fn main(): int { return 0; }",
		"fn f() { } fn main(): int { return 0; } $fn f(x: int): int { return x; }",
		"fn main(): int { return 0; } $fn main(): int { return 0; }",
		"fn f() { } fn g() { } $fn g() { } fn f() { } fn main(): int { return 0; }",
		"fn f() { } $fn f() { } fn f() { } fn main(): int { return 0; }",
		"$fn f(x: int, x: int) { } fn main(): int { return 0; }",
		"fn g() { } $fn f(x: int, y: bool, x: [int]) { } fn main(): int { return 0; }",
		"fn f() { } $fn main(x: int): int { return 0; }",
		"$fn main() { }", "$fn main(): bool { return true; }", "$fn main(): [int] { return new [1]; }", "$fn main(): [[int]] { return new [1, 1]; }",
		"$fn main(x: int, y: int) { } fn f() { }",
	} {
		refused(t, s, api.FaultType)
	}
	for _, s := range []string{"", " # fn main(): int { return 0; }", "fn f() { }", " fn f(): int { return 0; } fn Main(): int { return 0; } fn main_(): int { return 0; }"} {
		refusedAt(t, s, api.FaultType, 0)
	}
	checked(t, "fn f(f: int, main: int) { } fn g(f: int) { } fn main(): int { return 0; }")
}

// Promise 5.1: faults of statements.

func TestFaultsOfStatements(t *testing.T) {
	for _, s := range []string{
		// A second variable of a name in one block.
		"$var i = 2;", "var x = 1; $var x = 1;", "if t { var x = 1; $var x = 2; }", "if t { } else { var x = 1; print x; $var x = 2; }", "while t { var x = 1; $var x = true; }",
		"for j = 0 to 1 { var j = 1; $var j = 2; }", "var x = 1; if t { var x = 2; } $var x = 3;", "if t { var x = 1; if t { var x = 1; } $var x = 2; }", "for j = 0 to 1 { } var j = 1; $var j = 2;",
		"if t { var x = 1; } else if t { var x = 2; $var x = 3; }",
		// Of nothing.
		"var x = $v();",
		// Of another type, or of none.
		"i = $t;", "i = $a;", "i = $g;", "t = $i;", "t = $g;", "a = $i;", "a = $g;", "g = $a;", "g = $new [1];", "a = $new [1, 2];", "i = $v();", "t = $v();", "a = $v();",
		"a[0] = $t;", "a[0] = $a;", "g[0, 0] = $g;", "a[0] = $v();", "g[0, 1] = $t;",
		"if $i { }", "if $a { }", "if $v() { }", "if t { } else if $i { }", "while $i { }", "while $g { }", "while $v() { }",
		"for j = $t to 1 { }", "for j = 0 to $t { }", "for j = $a to g { }", "for j = $v() to 1 { }", "for j = 1 to $v() { }",
		"print $a;", "print $g;", "print $v();", "print $r(a);",
		"return $t;", "return $a;", "return $v();",
		// A variable that is unknown, or may not be set.
		"$x = 1;", "$x = t;", "$v = 1;", "$main = 1;", "if t { var x = 1; } $x = 1;", "while t { $x = 1; var x = 1; }", "for j = 0 to 1 { } $j = 1;",
		"for j = 0 to 1 { $j = 1; }", "for j = 0 to 1 { $j = t; }", "for j = 0 to 1 { if t { $j = j + 1; } }", "for j = 0 to 1 { while t { $j = 1; } }", "for i = 0 to 1 { $i = 1; }",
		"for j = 0 to 1 { if t { var j = 1; j = 2; } $j = 3; }", "for j = 0 to 1 { for k = 0 to j { $j = k; } }", "for j = 0 to 1 { for j = 0 to j { $j = 1; } }",
		"$return;", "if t { $return; }",
	} {
		refused(t, within(s), api.FaultType)
	}
	for _, s := range []string{
		"fn f() { $return 1; } fn main(): int { return 0; }",
		"fn f() { while true { $return f(); } } fn main(): int { return 0; }",
		"fn f(): bool { if true { $return; } return true; } fn main(): int { return 0; }",
		"fn f(): bool { return $1; } fn main(): int { return 0; }",
		"fn f(): [int] { return $new [1, 1]; } fn main(): int { return 0; }",
		"fn f(): [[int]] { return $new [1]; } fn main(): int { return 0; }",
		"fn f(x: int) { var y = x; var x = y; $var x = y; } fn main(): int { return 0; }",
		"fn f(x: int) { x = 1; x = $true; } fn main(): int { return 0; }",
		"fn f() { print $x; } fn g(x: int) { } fn main(): int { return 0; }",
	} {
		refused(t, s, api.FaultType)
	}
}

// Promise 5.1: faults of expressions. (Those of signs between two stand by their types.)

func TestFaultsOfExpressions(t *testing.T) {
	for _, s := range []string{
		// Names.
		"$x", "$v", "$main", "-$x", "1 + $x", "$x + 1", "n() + $n", "a[$x]", "$x[0]", "len($x)", "new [1, $x]", "r($x)", "i == $x", "t && $x", "$i_", "$I",
		// Signs ahead of one.
		"-$t", "-$a", "-$v()", "~$t", "~$g", "!$i", "!$a", "!$v()", "- -$t", "!$-i", "-$!t",
		// Truths.
		"$i && t", "t && $i", "$i || t", "t || $i", "$a && t", "t || $v()", "t && (($1))", "$1 || 0", "i < 1 && $i",
		// What is the same as what.
		"$a == a", "$g != g", "$v() == v()", "$a != 1", "$v() != 1", "i == $t", "t == $i", "i != $a", "t != $g", "i == $v()", "t != $v()", "1 == $true", "true != $0", "(i == 1) == $1",
		// Indexes.
		"$i[0]", "$t[0]", "$g[0]", "$a[0, 0]", "$i[0, 0]", "$v()[0]", "a[$t]", "a[$a]", "a[$v()]", "g[$t, 0]", "g[0, $t]", "g[$g, 0]", "g[0, $a]", "a$[0][1]", "g$[0, 0][1]", "$new [1][1, 1]", "$new [1, 1][1]", "r(a)[$t]",
		// Rows.
		"new [$t]", "new [$a]", "new [$v()]", "new [$t, 1]", "new [1, $t]", "new [1, $g]", "len($i)", "len($t)", "len($g)", "len($v())", "rows($a)", "rows($i)", "cols($a)", "cols($t)", "cols($v())", "len($new [1, 1])", "rows($new [1])",
		// Calls.
		"$f()", "$f(1)", "$x(1)", "$i()", "$n(1)", "$n(n())", "$r()", "$r(a, a)", "$m(g)", "$m(g, 1, 2)", "$m()", "$main(1)", "$v(1)", "r($i)", "r($g)", "r($v())", "m($a, 1)", "m(g, $t)", "m(g, $v())", "r(r($1))", "1 + $f()", "r($f())", "m(m(g, $t), 1)",
	} {
		refused(t, within("var y = "+s+";"), api.FaultType)
	}
	for _, s := range []string{"$f();", "$v(1);", "$m(g);", "r($i);", "r($v());", "m(g, $g);"} {
		refused(t, within(s), api.FaultType)
	}
}

// Promise 5.1: the first one is told.

func TestOrderInExpressions(t *testing.T) {
	for _, s := range []string{
		// From the left, each part with its type ahead of the next one.
		"$t + x", "$x + t", "$t + a", "1 + $t + x", "$a < x", "$i && x", "t && $i && x", "$x && y", "$a == x", "$x == y", "i == $t + x", "(1 + $t) * x",
		"$i[x]", "a[$t] + x", "$g[x]", "g[$t, x]", "g[$x, t]", "new [$t, x]", "new [$x, t]", "m($a, x)", "m(g, $a)", "m($x, t)", "r($x) + t",
		// A part ahead of what it is of.
		"!(1 + $t)", "(1 + $t) && x", "len(a[$t])", "new [a[$x]][t]", "-(i == $t)", "($a == i)[x]", "a[$t][x]", "(1 < $x) + 1",
		// A call ahead of its expressions.
		"$f(x)", "$n(x)", "$r(x, y)", "$r()[x]", "$m(t + 1)", "1 + $f(t + 1)",
	} {
		refused(t, within("var y = "+s+"; z = 1;"), api.FaultType)
	}
}

func TestOrderInStatements(t *testing.T) {
	for _, s := range []string{
		"var i = $x;", "var i = $v();", "var i = 1 + $t;", "var x = $x;", "var x = $x + t; x = 2;", "if t { var i = i; $var i = i; }",
		"$x = y;", "$x = v();", "for j = 0 to 1 { $j = x; }", "i = $x + t;",
		"a[$x] = y;", "a[$t] = t;", "$i[0] = t;", "$x[0] = y;", "a[0] = $y;", "$g[0] = t;", "g[0, $t] = x;",
		"if $x { y = 1; }", "if $i { y = 1; }", "if t { $y = 1; } else { z = 1; }", "if t { } else { $z = 1; }", "if t { } else if $x { y = 1; }", "while $x { y = 1; }", "while $i { y = 1; }",
		"for j = $x to y { z = 1; }", "for j = $t to x { }", "for j = 0 to $x { z = 1; }", "for j = 0 to $t { z = 1; }", "for j = 0 to $j { }", "for j = $j to 1 { }", "for j = 0 to 1 { $z = 1; }",
		"print $x;", "$x = 1; return t;", "v(); $f();",
	} {
		refused(t, within(s+" z = 1; return;"), api.FaultType)
	}
	refused(t, "fn f() { $return x; } fn main(): int { return 0; }", api.FaultType)
	refused(t, "fn f() { $return 1 + true; } fn main(): int { return 0; }", api.FaultType)
	refused(t, "fn f(): int { $return; x = 1; } fn main(): int { return 0; }", api.FaultType)
}

func TestOrderOfFunctions(t *testing.T) {
	for _, s := range []string{
		// Second functions first.
		"fn main(): int { return true; } fn f() { } $fn f() { }",
		"fn f(x: int, x: int) { } $fn f() { }",
		"fn f() { } $fn f() { } fn g() { } fn g() { } fn main() { }",
		"fn f(): int { } $fn f() { }",
		// Then function by function.
		"fn f() { $x = 1; } fn g() { y = 1; } fn main() { }",
		"$fn f(x: int, x: int) { y = 1; } fn main(): int { return 0; }",
		"fn f(x: int): int { $y = 1; } fn main(): int { return 0; }",
		"fn f(): int { return $true; print x; } fn main(): int { return 0; }",
		"$fn f(): int { } fn g() { x = 1; } fn main(): int { return 0; }",
		"$fn f(x: int, x: int): int { } fn main(): int { return 0; }",
		"fn main(x: int) { $y = 1; }",
		"$fn main(): bool { }  fn f() { x = 1; }",
		// Main last.
		"fn main(x: int) { } fn f() { $y = 1; }",
		"fn main(): bool { return true; } $fn f(): int { }",
		"fn f() { print $x; } fn g() { }",
		" $fn f(): int { }",
	} {
		refused(t, s, api.FaultType)
	}
}

// A function is known ahead of its place: that of a second one is not told by its calls.
func TestSecondFunctionIsNotCalled(t *testing.T) {
	refused(t, "fn main(): int { return f(1); } fn f(x: int): int { return x; } $fn f(): bool { return true; }", api.FaultType)
	if got, want := allSaid(checked(t, "fn main(): int { return g(f(1)); } fn f(x: int): bool { return true; } fn g(x: bool): int { return 1; }").Fns[0].Body[0].Kids), "g@2(f@1(1:int):bool):int"; got != want {
		t.Errorf("%s, not %s", got, want)
	}
}

// Promise 5.1: the number of variables.

// many are texts that each make a variable of its own.
func many(n int) string {
	var s strings.Builder
	for i := range n {
		s.WriteString("var a" + strconv.FormatInt(int64(i), 36) + "=0;")
	}
	return s.String()
}

func TestMostVars(t *testing.T) {
	if api.MostVars != 65536 {
		t.Error(api.MostVars)
	}
	most := "fn main(): int { " + many(api.MostVars)
	end := " return 0; }"
	if f := checked(t, most+end).Fns[0]; f.Vars != api.MostVars || f.Body[api.MostVars-1].N != api.MostVars-1 {
		t.Error(f.Vars)
	}
	checked(t, most+" a0 = 1; print a1; while true { a2 = a3; }"+end)
	for _, s := range []string{"$var x = 1;", "$for i = 0 to 1 { }", "if true { $var a0 = 1; }", "while true { $for a0 = 0 to 1 { y = 1; } }", "$var x = 1; y = 2;", "$var x = 1; var x = 1;"} {
		refused(t, most+s+end, api.FaultSize)
	}
	// An expression stands ahead of its variable; and of two faults of one variable that one is told that is named first.
	for _, s := range []string{"var x = $y;", "var x = $f();", "for i = 0 to $true { }", "for i = $y to 1 { }", "$var a0 = 1;", "if true { $y = 1; }", "$y = 1; var x = 1;"} {
		refused(t, most+s+end, api.FaultType)
	}
	// Each function has as many.
	checked(t, "fn f() { "+many(2000)+" } "+most+end)
}

// Variables count on behind their blocks; arguments count, too.
func TestMostVarsOfAll(t *testing.T) {
	loop := "for i=0to 0{}"
	head := "fn main(): int { return 0; } fn f(a: int, b: int) { "
	most := head + strings.Repeat(loop, api.MostVars-2)
	if f := checked(t, most+"}").Fns[1]; f.Vars != api.MostVars || f.Body[api.MostVars-3].N != api.MostVars-1 {
		t.Error(f.Vars)
	}
	refused(t, most+"$"+loop+"}", api.FaultSize)
	refused(t, most+"$var c = 1; }", api.FaultSize)
	refused(t, most+"$"+loop+"} fn g() { x = 1; }", api.FaultSize)
	refused(t, most+"print $x; "+loop+"}", api.FaultType)
	// Main is last.
	refused(t, strings.Replace(most, "int { return 0; }", "bool { return true; }", 1)+"$"+loop+"}", api.FaultSize)
}
