package parse

import (
	"strings"
	"testing"

	"distaff/api"
	"distaff/lex"
)

// fails asks for a fault at a place, and for nothing beside it.
func fails(t *testing.T, s string, kind, at int) {
	t.Helper()
	p, fault := Parse(s)
	if len(p.Fns) != 0 || fault != (api.Fault{Kind: kind, At: at}) {
		t.Errorf("%.200q (of %d bytes): %d functions, %v, not fault %d at %d", s, len(s), len(p.Fns), fault, kind, at)
	}
}

// refused asks for a fault where the mark $ stands, which is no part of the text.
func refused(t *testing.T, marked string, kind int) {
	t.Helper()
	at := strings.Index(marked, "$")
	fails(t, marked[:at]+marked[at+1:], kind, at)
}

// Promise 4.1: the word that may not stand there.

func TestFaultsOfFunctions(t *testing.T) {
	for _, s := range []string{
		"$main", "$;", "$}", "$1", "fn f() {} $;", "fn f() {} $f() {}", "fn f() { } $}",
		"fn $", "fn $1() {}", "fn $if() {}", "fn $() {}", "fn f$", "fn f ${ }", "fn f $= 1;",
		"fn f($", "fn f($,", "fn f($1", "fn f($;) {}", "fn f($int: int) {}", "fn f(a$) {}", "fn f(a$, b: int) {}", "fn f(a $= 1) {}",
		"fn f(a: $) {}", "fn f(a: $b) {}", "fn f(a: $void) {}", "fn f(a: int$", "fn f(a: int $b: int) {}", "fn f(a: int $] {}",
		"fn f(a: int,$) {}", "fn f(a: int,$, b: int) {}", "fn f(a: [$bool]) {}", "fn f(a: [$]) {}", "fn f(a: [int $) {}", "fn f(a: [int$, int]) {}",
		"fn f(a: [[$bool]]) {}", "fn f(a: [[$[int]]]) {}", "fn f(a: [[int$)", "fn f(a: [[int]$)", "fn f(a: [[int]$, b: int) {}", "fn f(a: [[$]]) {}",
		"fn f()$", "fn f() $;", "fn f() $int {}", "fn f() $(a) {}", "fn f(): $", "fn f(): ${}", "fn f(): $void {}", "fn f(): int$;", "fn f(): [int ${}",
		"fn f() {$", "fn f() { ${}", "fn f() { break; $", "fn f() { $fn g() {} }",
	} {
		refused(t, s, api.FaultSyntax)
	}
}

func TestFaultsOfStatements(t *testing.T) {
	for _, s := range []string{
		"$;", "${ }", "$1;", "$-a;", "$true;", "$input;", "$else { }", "$to;", "$step;", "$int;", "$, a;",
		"$(a)[0] = 1;", "$(f)();", "$new [1];", "$new [1][0] = 1;", "$len(a);", "$input[0] = 1;", "$1[0] = 1;",
		"var $= 1;", "var $1 = 1;", "var $if = 1;", "var x $;", "var x = $;", "var x $: int = 1;", "var x = 1 $", "var x = 1 $y = 2;", "var x $== 1;", "var x $[0] = 1;", "var x = 1 $, y = 2;",
		"x $;", "x $1;", "x $y;", "x $: 1;", "x $)", "x $", "x $+ 1;", "x $== 1;", "x ${ }", "x = $;", "x = $= 1;", "x = 1 $", "x = y $= 1;", "x = $var y;", "x $, y = 1;",
		"a[0] $;", "a[0] $+ 1;", "a[0][1] $;", "a[0] = $;", "a[0] = b[0] $= 1;", "a[0] $(1);", "a[0] $== 1;", "a[0 $;", "a[0 $) = 1;", "a[0, $] = 1;", "a[$, 0] = 1;", "a[0 $1] = 1;", "a[0] = 1 $",
		"f() $", "f() $= 1;", "f() $+ 1;", "f() $();", "f(1 $;", "f(1 $2);", "f(1,$);", "f($,1);", "f(1 $];", "f()[0] $;", "f()[0] $(1);", "f(1)[0] $+ 1;", "f(a $= 1);",
		"if $;", "if ${ }", "if a $;", "if a $break;", "if a $if b { }", "if a { } else $;", "if a { } else $while b { }", "if a { } else { } $else { }", "if a { } else if $else", "if a { } $;", "if a $= b { }", "if a { } else_ ${ }", "if a { } else if b $;",
		"while $;", "while ${ }", "while a $;", "while a { } $;", "while a { } $else { }", "while a $= b { }",
		"for $1 = 0 to 1 { }", "for i $to 1 { }", "for i = $to 1 { }", "for i = 0 ${ }", "for i = 0 to ${ }", "for i = 0 $, 1 { }", "for i = 0 to 1 $;", "for $var i = 0 to 1 { }", "for i $== 0 to 1 { }", "for $(i = 0 to 1) { }", "for i $[0] = 0 to 1 { }", "for i = 0 to 1 { } $;",
		"for i = 0 to 1 step $0 { }", "for i = 0 to 1 step -$0 { }", "for i = 0 to 1 step $000 { }", "for i = 0 to 1 step ${ }", "for i = 0 to 1 step -${ }", "for i = 0 to 1 step -$-1 { }", "for i = 0 to 1 step $+1 { }", "for i = 0 to 1 step $n { }",
		"for i = 0 to 1 step $(1) { }", "for i = 0 to 1 step $true { }", "for i = 0 to 1 step 1 $step 1 { }", "for i = 0 to 1 step 1 $;", "for i = 0 to 1 step 1 $+ 1 { }", "for i = 0 to 1 $1 { }", "for i = 0 $step 1 to 2 { }",
		"break $1;", "break $", "continue $a;", "continue $}", "return $return;", "return 1 $1;", "return 1 $", "return $}", "print $;", "print 1 $", "print 1 $, 2;", "print 1 $print 2;",
	} {
		refused(t, inMain(s), api.FaultSyntax)
	}
}

func TestFaultsOfExpressions(t *testing.T) {
	for _, s := range []string{
		"a $b", "($)", "(1 $", "(1 $, 2)", "(1 $]", "((1) $", "$+ 1", "1 + $", "1 + $+ 1", "1 * $/ 2", "1 + $&& 1", "$&& 1", "1 $! 2", "1 $~ 2", "1 $! = 2", "- $", "!$", "-$if", "-$)",
		"$int", "$fn", "$to", "$step", "$while", "$[0]", "${ }", "1 $= 2", "1 $(2)", "(f)$()", "true $()", "input$()", "f()$()", "a[0]$()", "1 $a", "1 $2", "a $: b", "1 $: 2", "1 $, 2", "a $input", "f(a $b)",
		"new $", "new $(1)", "new $n", "new [1 $)", "new [1 $", "new [1,$]", "new [$,1]", "new $new [1]", "new [1, 2, $]", "new [$", "new [$[1]]",
		"len $", "len $a", "len $[a]", "len(a $]", "len(a,$)", "len($,a)", "rows $", "rows(a $", "rows $a", "cols $a", "cols(a $", "len($", "len(a, b $",
		"a[$", "a[1, 2, 3 $", "a[1, 2, 3,$]", "a[$, 1, 2]", "a[1 $)", "a[1 $2]",
		"a < b $< c", "a == b $!= c", "a < b + c $>= d", "a && b == c $== d", "(a < b $> c)", "f(a < b $< c)", "a[b <= c $<= d]", "a == b $== c && d", "!a == b $== c",
	} {
		refused(t, inMain("print "+s+";"), api.FaultSyntax)
	}
}

// Each program without its last words ends where a word may not stand: at the end.
func TestBeginnings(t *testing.T) {
	s := "fn f(a: [int], b: [[int]]): bool { var x = new [1, 2][3]; a[-x] = f(a, b)[1]; f(); if a || b { } else if len(a) < 3 { return; } else { break; } for i = 1 to 2 step -3 { print !true; } }"
	parsed(t, s)
	words, _ := lex.Lex(s)
	for _, word := range words[1 : len(words)-1] {
		fails(t, s[:word.At], api.FaultSyntax, word.At)
		fails(t, s[:word.At]+"# "+s, api.FaultSyntax, word.At+2+len(s))
	}
}

// Promise 4.1: how many expressions there are is told at the bracket or at the word, when the list is done.
func TestNumbersOfExpressions(t *testing.T) {
	for _, s := range []string{
		"print a$[];", "print a$[1, 2, 3];", "print a[1]$[];", "print a[1, 2]$[1, 2, 3, 4];", "print (a + b)$[];", "print 1 + f(a$[]);",
		"a$[] = 1;", "a$[1, 2, 3] = 1;", "a[0]$[] = 1;", "f()$[] = 1;", "a$[];", "a$[1, 2, 3];",
		"print $new [];", "print $new [1, 2, 3];", "print $new [][0];", "print -$new [];", "print a[$new []];",
		"print $len();", "print $len(a, b);", "print $len(a, b, c)[0];", "print 1 + $len();", "print $rows();", "print $rows(a, b);", "print $cols();", "print $cols(a, b);",
		// What stands behind is not read yet.
		"print a$[] +;", "print $len() ;;", "print a$[][];", "print $new [1, 2, 3] 4;", "print f($len(), );", "print a$[1, 2, 3] a[];",
		// What stands within was read ahead.
		"print a[b$[], 1, 2];", "print a[1, 2, b$[]];", "print a[1, 2, b[3], $len()];", "print len(a, $len());", "print new [$new []];",
	} {
		refused(t, inMain(s), api.FaultSyntax)
	}
}

func TestFaultsOfWordsComeFirst(t *testing.T) {
	refused(t, "fn ; fn main() { $? }", api.FaultLex)
	refused(t, ") $18446744073709551616", api.FaultLex)
	fails(t, ")"+strings.Repeat(" ", api.MostSource), api.FaultSize, api.MostSource)
	refused(t, mainHead+"print "+strings.Repeat("(", 1025)+"$@", api.FaultLex)
	refused(t, strings.Repeat("fn f() {} ", 257)+"$.", api.FaultLex)
}

// The first fault is told, whatever stands behind.
func TestFirstFault(t *testing.T) {
	refused(t, "fn f( $; fn g( ;", api.FaultSyntax)
	refused(t, inMain("print a$[]; print ; }"), api.FaultSyntax)
	refused(t, inMain("x $; "+strings.Repeat("(", 2000)), api.FaultSyntax)
	refused(t, inMain("print "+strings.Repeat("(", 1024)+"$);"), api.FaultSize)
	refused(t, inMain("print "+strings.Repeat("-", 1024)+"$;"), api.FaultSize)
	refused(t, inMain("print a"+strings.Repeat("[0]", 254)+"$[0] = 1 }"), api.FaultSize)
}
