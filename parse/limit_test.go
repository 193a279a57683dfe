package parse

import (
	"slices"
	"strings"
	"testing"

	"distaff/api"
)

func TestLimits(t *testing.T) {
	if l := []int{api.MostDeep, api.MostNest, api.MostFns, api.MostParams}; !slices.Equal(l, []int{256, 1024, 256, 16}) {
		t.Error(l)
	}
}

// Promise 4.1: functions and arguments.

func TestMostFns(t *testing.T) {
	one := "fn f() {} "
	most := strings.Repeat(one, 256)
	if p := parsed(t, most); len(p.Fns) != 256 || p.Fns[255].At != 255*len(one) {
		t.Error(len(p.Fns))
	}
	parsed(t, most+"# fn\n")
	for _, s := range []string{"fn f() {}", "f", ";", "}", "fn", "1", "x = 1; fn f() {}"} {
		refused(t, most+"$"+s, api.FaultSize)
	}
	refused(t, most[len(one):]+"fn f( $;", api.FaultSyntax)
	refused(t, most[len(one):]+"fn f() {$", api.FaultSyntax)
}

func TestMostParams(t *testing.T) {
	most := "fn f(" + strings.Repeat("a: int, ", 15) + "a: [int]"
	if p := parsed(t, most+") {}"); len(p.Fns[0].Params) != 16 || p.Fns[0].Params[15].Type != api.TypeArr {
		t.Error(p)
	}
	for _, s := range []string{"a: int) {}", ") {}", ",", "1", "", "a", "fn f() {}"} {
		refused(t, most+", $"+s, api.FaultSize)
	}
	refused(t, most+" $a: int) {}", api.FaultSyntax)
	refused(t, most+"$;", api.FaultSyntax)
	refused(t, "fn g() {} "+most+") {} "+most+",$b: int) {}", api.FaultSize)
}

// The limit is one of arguments: expressions that are handed on are as many as there are.
func TestCallOfMany(t *testing.T) {
	if e := expr(t, "f("+strings.Repeat("1, ", 9999)+"1)"); len(e.Kids) != 10000 {
		t.Error(len(e.Kids))
	}
}

// Promise 4.1: how deep expressions and blocks are.

// shape is an expression of so many levels, and where its sign stands.
type shape struct {
	what string
	text func(deep int) string
	at   func(deep int) int
}

func shapes() []shape {
	// Each level stands around the one within.
	around := func(open, end string, sign int) shape {
		return shape{open, func(deep int) string {
			return strings.Repeat(open, deep-1) + "a" + strings.Repeat(end, deep-1)
		}, func(int) int { return sign }}
	}
	// Each level stands behind the one within.
	behind := func(more string) shape {
		return shape{more, func(deep int) string {
			return "a" + strings.Repeat(more, deep-1)
		}, func(deep int) int { return 1 + (deep-2)*len(more) }}
	}
	return []shape{
		around("-", "", 0), around("!(~", ")", 0).by(2), around("f(", ")", 0), around("f(1,", ",1)", 0), around("a[", "]", 1), around("a[0,", "]", 1), around("a[", ",0]", 1),
		around("new[", "]", 0), around("new[0,", "]", 0), around("len(", ")", 0), around("rows(", ")", 0), around("cols(", ")", 0), around("1+(", ")", 1), around("1<(", ")", 1),
		around("b&&(", ")", 1), around("b||(", ")", 1), around("1||1&&1==1|1&1<<1+1*(", ")", 1).by(8),
		behind("[0]"), behind("[0,0]"), behind("+1"), behind("-1"), behind("*1"), behind(">>>1"), behind("&1"), behind("^1"), behind("&&b"), behind("||b"),
	}
}

// by is a shape whose step comes to several levels; signs ahead are the others.
func (x shape) by(levels int) shape {
	text := x.text
	x.text = func(deep int) string {
		return strings.Replace(text((deep-1)/levels+1), "a", strings.Repeat("-", (deep-1)%levels)+"a", 1)
	}
	return x
}

// within are blocks of all kinds: they have an expression of their own in the blocks around; an if behind else counts twice.
func within(blocks int) (open, end string) {
	kinds := []string{"if a {", "while a {", "for i = a to b {", "if a { } else {", "if a { } else if b {"}
	for i := 0; blocks > 0; i++ {
		kind := i % len(kinds)
		if kind == 4 {
			blocks--
		}
		if blocks == 0 {
			return open + kinds[0], end + "}"
		}
		blocks--
		open += kinds[kind]
		end += "}"
	}
	return open, end
}

func TestMostDeep(t *testing.T) {
	ways := [][2]string{{"print ", ";"}, {"return ", ";"}, {"var x = ", ";"}, {"x = ", ";"}, {"if ", "{ }"}, {"while ", "{ }"}, {"for i = ", " to a { }"}, {"for i = a to ", "{ }"}}
	for _, x := range shapes() {
		for _, blocks := range []int{1, 2, 3, 4, 5, 6, 7, 8, 100, 200} {
			open, end := within(blocks - 1)
			most := 256 - blocks
			for _, way := range ways {
				head := mainHead + open + way[0]
				parsed(t, head+x.text(most)+way[1]+end+"}")
				fails(t, head+x.text(most+1)+way[1]+end+"}", api.FaultSize, len(head)+x.at(most+1))
			}
			head := mainHead + open
			parsed(t, head+"a[0] = "+x.text(most)+";"+end+"}")
			parsed(t, head+"f("+x.text(most-1)+");"+end+"}")
			parsed(t, head+"a["+x.text(most-1)+"] = 1;"+end+"}")
			fails(t, head+"a[0] = "+x.text(most+1)+";"+end+"}", api.FaultSize, len(head+"a[0] = ")+x.at(most+1))
			fails(t, head+"f("+x.text(most)+");"+end+"}", api.FaultSize, len(head))
			fails(t, head+"a["+x.text(most)+"] = 1;"+end+"}", api.FaultSize, len(head+"a"))
		}
	}
}

// A part is done ahead of the whole: what is too deep first is told, ahead of the word behind it.
func TestFirstThatIsTooDeep(t *testing.T) {
	signs := func(many int) string { return strings.Repeat("-", many) }
	indexes := func(many int) string { return strings.Repeat("[0]", many) }
	for _, x := range []struct {
		s    string
		kind int
	}{
		{"print 1 + " + signs(5) + "$" + signs(255) + "a;", api.FaultSize},
		{"print f(" + signs(253) + "a, $" + signs(255) + "a);", api.FaultSize},
		{"print 1 + a" + indexes(253) + " $- a;", api.FaultSize},
		{"print 1 + a" + indexes(253) + " - a" + indexes(254) + "$[0];", api.FaultSize},
		{"print 1 + a" + indexes(252) + " - a" + indexes(254) + "$" + indexes(3) + ";", api.FaultSize},
		{"print " + signs(254) + "a $a;", api.FaultSyntax},
		{"print $" + signs(255) + "a a;", api.FaultSize},
		{"print " + signs(255) + "$;", api.FaultSyntax},
		{"a" + indexes(254) + " $;", api.FaultSyntax},
		{"a" + indexes(254) + "$[0];", api.FaultSize},
		{"$f(" + signs(254) + "a) = 1;", api.FaultSize},
		{"print a + b" + indexes(252) + " < c" + indexes(253) + " $< d;", api.FaultSyntax},
		{"print b" + indexes(254) + " $< c < d;", api.FaultSize},
		// Another number of expressions is no expression: how deep it is is not asked.
		{"print a" + indexes(254) + "$[];", api.FaultSyntax},
		{"print $len(" + signs(254) + "a, b);", api.FaultSyntax},
	} {
		refused(t, inMain(x.s), x.kind)
	}
}

// Brackets of no list are no expression: they count as nothing.
func TestBracketsAreNotDeep(t *testing.T) {
	open, end := strings.Repeat("(", 500), strings.Repeat(")", 500)
	if e := expr(t, open+"-"+open+"a"+end+end); e.Kind != api.ExprUnary || e.At != 500 {
		t.Error(e)
	}
	signs := strings.Repeat("-", 127)
	parsed(t, inMain("print "+open+signs+"("+signs+"a)"+end+";"))
	refused(t, inMain("print "+open+"$-"+signs+"("+signs+"a)"+end+";"), api.FaultSize)
}

// In the innermost block that may be there is no room for an expression.
func TestMostBlocks(t *testing.T) {
	open, end := within(255)
	for _, s := range []string{"", "break;", "continue;", "return;", "break; continue; return; break;"} {
		parsed(t, inMain(open+s+end))
	}
	for _, s := range []string{
		"print $1;", "return $a;", "return $true;", "print $input;", "x = $1;", "var x = $1;", "$f();", "$a[0] = 1;", "f($1);", "print $f();", "print f($a);", "print -$a;", "print $1 1;", "print $a < b;",
		"if $a { }", "while $a { }", "for i = $a to b { }", "break; if $a { break; }",
	} {
		refused(t, inMain(open+s+end), api.FaultSize)
	}
	for _, s := range []string{"x $;", "x $1;", "if ${ }", "print $;", "break $1;", "f($,1);", "for $1 = a to b { }", "$else { }"} {
		refused(t, inMain(open+s+end), api.FaultSyntax)
	}
	for _, kind := range []string{"if $a {", "while $a {", "for i = $0 to 1 {", "if $a { } else {"} {
		most := strings.Repeat(strings.ReplaceAll(kind, "$", ""), 255)
		parsed(t, inMain(most+strings.Repeat("}", 255)))
		refused(t, inMain(most+kind+strings.Repeat("}", 256)), api.FaultSize)
	}
}

func TestIfBehindElseIsDeep(t *testing.T) {
	chain := func(more int) string { return "if a { }" + strings.Repeat(" else if a { }", more) }
	parsed(t, inMain(chain(254)))
	parsed(t, inMain(chain(254)+" else { break; }"))
	refused(t, inMain(chain(254)+" else { print $1; }"), api.FaultSize)
	refused(t, inMain(chain(254)+" else if $a { }"), api.FaultSize)
	parsed(t, inMain(chain(253)+" else if a { break; }"))
	refused(t, inMain(chain(253)+" else if a { f($a); }"), api.FaultSize)
	parsed(t, inMain(chain(253)+" else { print 1; if a { break; } }"))
	refused(t, inMain(chain(253)+" else { print 1; if a { break; } while $-a { } }"), api.FaultSize)
	// Behind the chain all is as it was.
	parsed(t, inMain(chain(254)+chain(254)+"print "+strings.Repeat("-", 254)+"a;"))
	// An if in the block of an else is one more, too.
	blocks := strings.Repeat("if a { } else { ", 254)
	parsed(t, inMain(blocks+"if a { }"+strings.Repeat("}", 254)))
	refused(t, inMain(blocks+"if a { } else if $a { }"+strings.Repeat("}", 254)), api.FaultSize)
}

// Promise 4.1: what is within one another.

// nests are ways to be one more within; the last word of the first text is that by which it is one more.
var nests = [][2]string{{"(", ")"}, {"f(", ")"}, {"a[", "]"}, {"new [", "]"}, {"len(", ")"}, {"rows (", ")"}, {"cols(", ")"}, {"-", ""}, {"~", ""}, {"!", ""}}

// nested is a text of so many levels; few of them are expressions, for these would be too deep.
func nested(levels, kind int) (open, end string) {
	for level := range levels {
		x := nests[0]
		if level%7 == 3 {
			x = nests[kind]
		}
		open += x[0]
		end = x[1] + end
	}
	return open, end
}

func TestMostNest(t *testing.T) {
	for kind := range nests {
		for _, blocks := range []int{1, 2, 7} {
			around, behind := within(blocks - 1)
			open, end := nested(1024-blocks, kind)
			head := mainHead + around + "print "
			parsed(t, head+open+"1"+end+";"+behind+"}")
			for _, more := range nests {
				for _, word := range []string{"1" + more[1] + end + ";" + behind + "}", ")", "]", ";", "fn", "-1", "(1", "}", ""} {
					refused(t, head+open+more[0]+"$"+word, api.FaultSize)
				}
			}
			refused(t, head+open+"$;", api.FaultSyntax)
		}
	}
}

// What is left counts no more.
func TestNestIsLeft(t *testing.T) {
	for kind := range nests {
		open, end := nested(1023, kind)
		full := open + "1" + end
		parsed(t, inMain("print "+full+"; print "+full+"; x = "+full+" + "+full+"; if "+full+" { } else if a { } while "+full+" { }"))
		parsed(t, inMain("f(1)[-0] = "+full+"; a[f(-1)] = "+full+"; f(a[0], new [1], len(b)); for i = "+full+" to "+full+" { } print "+full+";"))
		refused(t, inMain("print "+full+" + ("+open+"$1;"), api.FaultSize)
		open, end = nested(1022, kind)
		full = open + "1" + end
		parsed(t, inMain("f("+full+", "+full+"); a["+full+"]["+full+", "+full+"] = -"+full+";"))
		refused(t, inMain("f("+full+", ("+open+"$1;"), api.FaultSize)
		refused(t, inMain("a["+full+", -"+open+"$1;"), api.FaultSize)
	}
}

// An if behind else is one more within, for what it asks and for its blocks.
func TestIfBehindElseIsWithin(t *testing.T) {
	for _, x := range []struct {
		head string
		most int
	}{
		{"if ", 1023},
		{"if a { } else if ", 1022},
		{"if a { } else if a { } else if ", 1021},
		{"if a { print ", 1022},
		{"if a { } else { print ", 1022},
		{"if a { } else if a { print ", 1021},
		{"if a { } else if a { } else { print ", 1021},
		{"if a { } else { if a { print ", 1021},
		{"if a { } else if a { } print ", 1023},
	} {
		open := strings.Repeat("(", x.most)
		refused(t, mainHead+x.head+open+"1$", api.FaultSyntax)
		refused(t, mainHead+x.head+open+"($1", api.FaultSize)
	}
}
