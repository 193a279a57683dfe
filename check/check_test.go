package check

import (
	"reflect"
	"slices"
	"strconv"
	"strings"
	"testing"

	"distaff/api"
	"distaff/parse"
	"distaff/tree"
)

// parsed is the program of a text, as it is handed in.
func parsed(t *testing.T, s string) api.Tree {
	t.Helper()
	p, fault := parse.Parse(s)
	if fault != (api.Fault{}) {
		t.Fatalf("%.200q (of %d bytes) is no program: %v", s, len(s), fault)
	}
	return p
}

// checked is the program of a text that has no fault, with all that is known of it.
func checked(t *testing.T, s string) api.Tree {
	t.Helper()
	p, fault := Check(parsed(t, s))
	if fault != (api.Fault{}) {
		t.Fatalf("%.200q (of %d bytes): %v %q", s, len(s), fault, s[max(0, fault.At-150):min(len(s), fault.At+60)])
	}
	return p
}

// The functions and variables of all texts below that are statements or expressions: main is function 5, its variables 0 to 3 stand around.
const (
	heads = `fn v() { } fn n(): int { return 0; } fn b(): bool { return true; } fn r(x: [int]): [int] { return x; } fn m(x: [[int]], y: int): [[int]] { return x; } `
	begun = `fn main(): int { var i = 1; var t = true; var a = new [3]; var g = new [3, 4]; `
)

// within is a text of a program with these statements.
func within(s string) string {
	return heads + begun + s + " return 0; }"
}

// body is the checked statements of such a text.
func body(t *testing.T, s string) []api.Stmt {
	t.Helper()
	l := checked(t, within(s)).Fns[5].Body
	return l[4 : len(l)-1]
}

// said tells an expression with all types, and with what names and calls stand for.
func said(e api.Expr) string {
	s := map[int]string{
		api.ExprInt: tree.Digits(e.N), api.ExprBool: strconv.FormatBool(e.N == 1),
		api.ExprName: e.S + "@" + tree.Digits(e.N), api.ExprCall: e.S + "@" + tree.Digits(e.N),
		api.ExprUnary: tree.Sign(e.Op), api.ExprBinary: tree.Sign(e.Op), api.ExprAnd: "&&", api.ExprOr: "||",
		api.ExprIndex: "at", api.ExprNew: "new", api.ExprLen: "len", api.ExprRows: "rows", api.ExprCols: "cols", api.ExprInput: "input",
	}[e.Kind]
	if len(e.Kids) > 0 || e.Kind == api.ExprCall {
		s += "(" + allSaid(e.Kids) + ")"
	}
	return s + ":" + map[int]string{0: "none", 1: "int", 2: "bool", 3: "row", 4: "rows"}[e.Type]
}

func allSaid(l []api.Expr) string {
	var kids []string
	for _, k := range l {
		kids = append(kids, said(k))
	}
	return strings.Join(kids, " ")
}

// Promise 5.1: types.

func TestExample(t *testing.T) {
	refusedAt(t, "fn main(): int { return true; }", api.FaultType, 24)
}

func TestSmallest(t *testing.T) {
	want := api.Tree{Fns: []api.Fn{{Name: "main", Ret: api.TypeInt, Vars: 1, Body: []api.Stmt{
		{Kind: api.StmtVar, At: 18, S: "x", Kids: []api.Expr{{Kind: api.ExprBool, At: 26, Type: api.TypeBool, N: 1}}},
		{Kind: api.StmtReturn, At: 32, Kids: []api.Expr{
			{Kind: api.ExprCall, At: 39, Type: api.TypeInt, S: "main"},
		}},
	}}}}
	if p := checked(t, "fn main(): int {  var x = true; return main(); }"); !reflect.DeepEqual(p, want) {
		t.Error(p)
	}
}

func TestTypesOfExpressions(t *testing.T) {
	for s, want := range map[string]string{
		"7":                  "7:int",
		"true":               "true:bool",
		"false":              "false:bool",
		"input":              "input:int",
		"i":                  "i@0:int",
		"t":                  "t@1:bool",
		"a":                  "a@2:row",
		"g":                  "g@3:rows",
		"-i":                 "-(i@0:int):int",
		"~7":                 "~(7:int):int",
		"!t":                 "!(t@1:bool):bool",
		"!!true":             "!(!(true:bool):bool):bool",
		"t && false":         "&&(t@1:bool false:bool):bool",
		"t || b()":           "||(t@1:bool b@2():bool):bool",
		"a[i]":               "at(a@2:row i@0:int):int",
		"g[i, 2]":            "at(g@3:rows i@0:int 2:int):int",
		"r(a)[a[0]]":         "at(r@3(a@2:row):row at(a@2:row 0:int):int):int",
		"m(g, 1)[0, 1]":      "at(m@4(g@3:rows 1:int):rows 0:int 1:int):int",
		"new [3][0]":         "at(new(3:int):row 0:int):int",
		"new [3, i][0, 1]":   "at(new(3:int i@0:int):rows 0:int 1:int):int",
		"new [i]":            "new(i@0:int):row",
		"new [i, 2]":         "new(i@0:int 2:int):rows",
		"len(a)":             "len(a@2:row):int",
		"len(new [1])":       "len(new(1:int):row):int",
		"rows(g)":            "rows(g@3:rows):int",
		"cols(new [1, 2])":   "cols(new(1:int 2:int):rows):int",
		"n()":                "n@1():int",
		"b()":                "b@2():bool",
		"r(a)":               "r@3(a@2:row):row",
		"m(m(g, i), n())":    "m@4(m@4(g@3:rows i@0:int):rows n@1():int):rows",
		"main()":             "main@5():int",
		"i == 1":             "==(i@0:int 1:int):bool",
		"t != (1 < 2)":       "!=(t@1:bool <(1:int 2:int):bool):bool",
		"(i == 1) == (t!=t)": "==(==(i@0:int 1:int):bool !=(t@1:bool t@1:bool):bool):bool",
	} {
		if got := allSaid(body(t, "var x = "+s+";")[0].Kids); got != want {
			t.Errorf("%s: %s, not %s", s, got, want)
		}
	}
}

func TestTypesOfSigns(t *testing.T) {
	for _, sign := range strings.Fields("+ - * / % & | ^ << >> >>>") {
		if got, want := allSaid(body(t, "var x = i "+sign+" 2;")[0].Kids), sign+"(i@0:int 2:int):int"; got != want {
			t.Errorf("%s: %s, not %s", sign, got, want)
		}
		refusedAll(t, sign, "$t "+sign+" 1", "1 "+sign+" $t", "$a "+sign+" a", "1 "+sign+" $g")
	}
	for _, sign := range strings.Fields("< <= > >=") {
		if got, want := allSaid(body(t, "var x = i "+sign+" 2;")[0].Kids), sign+"(i@0:int 2:int):bool"; got != want {
			t.Errorf("%s: %s, not %s", sign, got, want)
		}
		refusedAll(t, sign, "$t "+sign+" t", "1 "+sign+" $t", "$a "+sign+" a")
	}
	for _, sign := range strings.Fields("== !=") {
		for _, kids := range []string{"i@0:int 2:int", "t@1:bool true:bool"} {
			first, second, _ := strings.Cut(kids, " ")
			s := first[:1] + " " + sign + " " + strings.Split(second, ":")[0]
			if got, want := allSaid(body(t, "var x = "+s+";")[0].Kids), sign+"("+kids+"):bool"; got != want {
				t.Errorf("%s: %s, not %s", s, got, want)
			}
		}
	}
}

func refusedAll(t *testing.T, sign string, l ...string) {
	t.Helper()
	for _, s := range l {
		refused(t, within("var x = "+s+";"), api.FaultType)
	}
}

// Promise 5.1: N of names and variables, and Vars.

// numbers are, in the order of the text, names with what they stand for: of statements that make or set a variable, and of expressions.
func numbers(l []api.Stmt) []string {
	var out []string
	for _, s := range l {
		name := s.S + "=" + tree.Digits(s.N)
		if s.Kind == api.StmtSet {
			out = append(out, name)
		}
		out = append(out, numbersOf(s.Kids)...)
		if s.Kind == api.StmtVar || s.Kind == api.StmtFor {
			out = append(out, name)
		}
		out = append(append(out, numbers(s.Body)...), numbers(s.Else)...)
	}
	return out
}

func numbersOf(l []api.Expr) []string {
	var out []string
	for _, e := range l {
		if e.Kind == api.ExprName {
			out = append(out, e.S+":"+tree.Digits(e.N))
		}
		out = append(out, numbersOf(e.Kids)...)
	}
	return out
}

func TestNumbersOfVariables(t *testing.T) {
	for _, x := range []struct {
		s    string
		vars int
		want string
	}{
		{"()  { }", 0, ""},
		{"(x: int, y: bool) { }", 2, ""},
		{"(x: int, y: [int]) { var z = y[x]; x = z; z = x; }", 3, "y:1 x:0 z=2 x=0 z:2 z=2 x:0"},
		// An argument's name may be one of the body's.
		{"(x: int) { var x = x; x = x; }", 2, "x:0 x=1 x=1 x:1"},
		{"(x: int) { print x; var x = true; if x { print x; } }", 2, "x:0 x=1 x:1 x:1"},
		// A name is looked up in blocks from within, and is gone behind its block.
		{"(x: int) { if true { var x = x; var y = x; x = y; } else { var y = x; print y; } var y = x; print y; }", 5, "x:0 x=1 x:1 y=2 x=1 y:2 x:0 y=3 y:3 x:0 y=4 y:4"},
		{"() { var a = 1; while true { var a = a; if true { var b = a; var a = b; print a; } print a; var b = a; } print a; }", 5, "a=0 a:0 a=1 a:1 b=2 b:2 a=3 a:3 a:1 a:1 b=4 a:0"},
		// Of several blocks around that have one, the innermost one tells, also if blocks without one stand between.
		{"() { var a = 1; if true { if true { var a = 2; if true { if true { print a; } } print a; } print a; } print a; }", 2, "a=0 a=1 a:1 a:1 a:0 a:0"},
		// It stands for the one that was made ahead, as long as that one is the innermost one.
		{"() { var a = 1; while a < 2 { print a; a = a; var a = true; while a { } } a = 2; }", 2, "a=0 a:0 a:0 a=0 a:0 a=1 a:1 a=0"},
		// A loop's variable is in a block of its own, and is none in its numbers.
		{"(i: int) { for i = i to i { print i; var i = i; i = i; } print i; i = 1; }", 3, "i:0 i:0 i=1 i:1 i:1 i=2 i=2 i:2 i:0 i=0"},
		{"() { for i = 0 to 1 { for i = i to i { print i; } print i; } for i = 0 to 1 { } }", 3, "i=0 i:0 i:0 i=1 i:1 i:0 i=2"},
		{"() { var i = 5; for j = i to 9 { var i = j; if true { var j = i; j = j; } } print i; }", 4, "i=0 i:0 j=1 j:1 i=2 i:2 j=3 j=3 j:3 i:0"},
		{"() { if false { } else if true { var a = 1; print a; } else { var a = 2; print a; } var a = 3; print a; }", 3, "a=0 a:0 a=1 a:1 a=2 a:2"},
		{"() { if true { var a = 1; } if true { var a = 2; print a; } while true { var a = 3; print a; } }", 3, "a=0 a=1 a:1 a=2 a:2"},
	} {
		f := checked(t, "fn f"+x.s+" fn main(): int { return 0; }").Fns[0]
		if got := strings.Join(numbers(f.Body), " "); got != x.want || f.Vars != x.vars {
			t.Errorf("%s: %d variables, %s, not %d, %s", x.s, f.Vars, got, x.vars, x.want)
		}
	}
}

// Variables are numbered anew in each function; names of functions are none of variables.
func TestNumbersOfFunctions(t *testing.T) {
	p := checked(t, "fn main(): int { var g = f(1) + g(); var f = g; return f(g) + main(); } fn f(g: int): int { return g + g(); } fn g(): int { var main = 1; return main; }")
	want := []string{"g=0 g:0 f=1 g:0", "g:0", "main=0 main:0"}
	for i, f := range p.Fns {
		if got := strings.Join(numbers(f.Body), " "); got != want[i] || f.Vars != []int{2, 1, 1}[i] {
			t.Errorf("%s: %d variables, %s, not %s", f.Name, f.Vars, got, want[i])
		}
	}
	if got, want := allSaid(p.Fns[0].Body[2].Kids), "+(f@1(g@0:int):int main@0():int):int"; got != want {
		t.Errorf("%s, not %s", got, want)
	}
	if got, want := allSaid(p.Fns[0].Body[0].Kids), "+(f@1(1:int):int g@2():int):int"; got != want {
		t.Errorf("%s, not %s", got, want)
	}
}

// Promise 5.1: statements that may be.

func TestStatements(t *testing.T) {
	for s, want := range map[string]string{
		"var x = 1;":             "1:int",
		"var x = t;":             "t@1:bool",
		"var x = a;":             "a@2:row",
		"var x = g;":             "g@3:rows",
		"i = 2;":                 "2:int",
		"t = !t;":                "!(t@1:bool):bool",
		"a = r(a);":              "r@3(a@2:row):row",
		"g = new [1, 2];":        "new(1:int 2:int):rows",
		"a[i] = 2;":              "at(a@2:row i@0:int):int 2:int",
		"g[i, 0] = a[1];":        "at(g@3:rows i@0:int 0:int):int at(a@2:row 1:int):int",
		"r(a)[0] = i;":           "at(r@3(a@2:row):row 0:int):int i@0:int",
		"if t { }":               "t@1:bool",
		"while i < 1 { }":        "<(i@0:int 1:int):bool",
		"for j = i to len(a) {}": "i@0:int len(a@2:row):int",
		"print i;":               "i@0:int",
		"print t;":               "t@1:bool",
		"v();":                   "v@0():none",
		"n();":                   "n@1():int",
		"b();":                   "b@2():bool",
		"r(a);":                  "r@3(a@2:row):row",
		"m(g, i);":               "m@4(g@3:rows i@0:int):rows",
		"return i;":              "i@0:int",
		"while t { break; }":     "t@1:bool",
	} {
		l := body(t, s)
		if got := allSaid(l[0].Kids); len(l) != 1 || got != want {
			t.Errorf("%s: %s, not %s", s, got, want)
		}
	}
}

// What is within a block is checked, too, and told as it stands.
func TestBlocks(t *testing.T) {
	for _, s := range []string{
		"if t { print i; }", "if t { } else { print i; }", "if t { } else if t { print i; }", "if t { } else if t { } else { print i; }",
		"while t { print i; }", "for j = 0 to 1 { print i; }", "while t { if t { } else { for j = 0 to 1 { print i; } } }",
	} {
		var kids []api.Expr
		var look func(l []api.Stmt)
		look = func(l []api.Stmt) {
			for _, s := range l {
				if s.Kind == api.StmtPrint {
					kids = append(kids, s.Kids...)
				}
				look(s.Body)
				look(s.Else)
			}
		}
		look(body(t, s))
		if got := allSaid(kids); got != "i@0:int" {
			t.Errorf("%s: %s", s, got)
		}
		refused(t, within(strings.Replace(s, "print i", "print $a", 1)), api.FaultType)
	}
}

func TestLoopsAround(t *testing.T) {
	for _, s := range []string{
		"while t { break; }", "while t { continue; }", "for j = 0 to 1 { break; }", "for j = 0 to 1 { continue; }",
		"while t { if t { break; } else { continue; } }", "for j = 0 to 1 { while t { break; } continue; }",
		"while t { if t { } else if t { break; } else { continue; } break; break; }",
	} {
		checked(t, within(s))
	}
	for _, s := range []string{
		"$break;", "$continue;", "if t { $break; }", "if t { } else { $continue; }", "while t { } $break;", "for j = 0 to 1 { } $continue;",
		"while t { while t { } break; } $break;", "while t { break; } if t { $continue; }", "for j = 0 to 1 { for k = 0 to 1 { } } $break;",
	} {
		refused(t, within(s), api.FaultType)
	}
	refused(t, "fn f() { while true { break; } } fn g() { $break; } fn main(): int { return 0; }", api.FaultType)
}

func TestBlocksThatEnd(t *testing.T) {
	for _, s := range []string{
		"return 1;", "print 1; return 1;", "return 1; return 2;", "if true { return 1; } else { return 2; }", "if true { } return 1;",
		"if true { return 1; } else if false { return 2; } else { return 3; }",
		"if true { if false { return 1; } else { return 2; } } else { print 1; return 3; }",
		"while true { } return 1;", "return 1; while true { } return 1;",
	} {
		checked(t, "fn main(): int { "+s+" }")
		// A function that comes to nothing need not end.
		checked(t, "fn f() { "+strings.NewReplacer("return 1", "return", "return 2", "return", "return 3", "return").Replace(s)+" } fn main(): int { return 0; }")
	}
	for _, s := range []string{
		"", "print 1;", "return 1; print 1;", "if true { return 1; }", "if true { return 1; } else { }", "if true { } else { return 1; }", "if true { } else { }",
		"if true { return 1; } else if false { return 2; }", "if true { return 1; } else if false { return 2; } else { }", "if true { return 1; } else if false { } else { return 1; }",
		"if true { return 1; } else { return 2; } print 1;", "if true { return 1; print 1; } else { return 2; }", "if true { return 1; } else { return 2; print 2; }",
		"while true { return 1; }", "for i = 0 to 1 { return 1; }", "while true { }", "main();", "return 1; var x = 1;", "return 1; if true { }",
	} {
		refused(t, "fn f() { } $fn main(): int { "+s+" }", api.FaultType)
		checked(t, "fn f() { "+strings.NewReplacer("return 1", "return", "return 2", "return").Replace(s)+" } fn main(): int { return 0; }")
	}
	// Of whatever a function comes to.
	for kind, value := range map[string]string{"int": "1", "bool": "true", "[int]": "new [1]", "[[int]]": "new [1, 1]"} {
		checked(t, "fn f(): "+kind+" { return "+value+"; } fn main(): int { return 0; }")
		refused(t, "$fn f(): "+kind+" { while true { return "+value+"; } } fn main(): int { return 0; }", api.FaultType)
	}
}

// Promise 5.1: the program handed in stays as it is. And rule R2: what is answered is the caller's own.

// scribbled is a program of which each part was written over.
func scribbled(p *api.Tree) {
	for i := range p.Fns {
		f := &p.Fns[i]
		for j := range f.Params {
			f.Params[j] = api.Param{Name: "?", Type: 99}
		}
		scribbleStmts(f.Body)
		*f = api.Fn{Name: "?"}
	}
}

func scribbleStmts(l []api.Stmt) {
	for i := range l {
		scribbleExprs(l[i].Kids)
		scribbleStmts(l[i].Body)
		scribbleStmts(l[i].Else)
		l[i] = api.Stmt{Kind: 99}
	}
}

func scribbleExprs(l []api.Expr) {
	for i := range l {
		scribbleExprs(l[i].Kids)
		l[i] = api.Expr{Kind: 99}
	}
}

// wide is a text with every kind of statement and of expression.
const wide = `fn f(x: int, y: bool, z: [int], w: [[int]]): [int] {
	var p = -x + ~x * (x << 1); var q = !y && y || x == p; p = p - 1; z[p] = w[x, 1]; w[0, x] = len(z) + rows(w) * cols(w);
	if q { print q; } else if y { return z; } else { f(x, q, z, w); }
	while x < 3 { break; continue; } for i = x to p step -2 { var i = i; print i; }
	z = new [3]; w = new [3, x]; x = input; y = true; y = x == 1; return f(1, false, z, w);
} fn v() { return; } fn main(): int { v(); return f(1, true, new [1], new [1, 2])[0]; }`

func TestStaysAsItIs(t *testing.T) {
	for _, s := range []string{wide, "fn main(): int { return true; }", "fn main(x: int): int { var x = x; return x + y; }"} {
		given := parsed(t, s)
		first, fault := Check(given)
		if !reflect.DeepEqual(given, parsed(t, s)) {
			t.Errorf("%s: it was changed: %v", s, given)
		}
		second, again := Check(given)
		if fault != again || !reflect.DeepEqual(first, second) {
			t.Errorf("%s: %v, then %v", s, first, second)
		}
		scribbled(&first)
		if !reflect.DeepEqual(given, parsed(t, s)) {
			t.Errorf("%s: it has parts of the answer", s)
		}
		scribbled(&given)
		if third, _ := Check(parsed(t, s)); !reflect.DeepEqual(second, third) {
			t.Errorf("%s: the answer has parts of it", s)
		}
	}
}

// What is answered says the same as what was handed in, at the same places.
func TestSaysTheSame(t *testing.T) {
	given, p := parsed(t, wide), checked(t, wide)
	if !tree.Same(given, p) || tree.Print(given) != tree.Print(p) {
		t.Error(tree.Print(p))
	}
	bare(&p)
	if !reflect.DeepEqual(given, p) {
		t.Error(p)
	}
}

// bare takes from a program what is known of it.
func bare(p *api.Tree) {
	for i := range p.Fns {
		p.Fns[i].Vars = 0
		bareStmts(p.Fns[i].Body)
	}
}

func bareStmts(l []api.Stmt) {
	for i := range l {
		l[i].N = 0
		bareExprs(l[i].Kids)
		bareStmts(l[i].Body)
		bareStmts(l[i].Else)
	}
}

func bareExprs(l []api.Expr) {
	for i := range l {
		l[i].Type = 0
		if l[i].Kind == api.ExprName || l[i].Kind == api.ExprCall {
			l[i].N = 0
		}
		bareExprs(l[i].Kids)
	}
}

// Statements without a variable have no number, whatever stands within.
func TestNumbersOfOtherStatements(t *testing.T) {
	var look func(l []api.Stmt)
	look = func(l []api.Stmt) {
		for _, s := range l {
			if s.N != 0 && !slices.Contains([]int{api.StmtVar, api.StmtSet, api.StmtFor}, s.Kind) {
				t.Errorf("%d: %d", s.Kind, s.N)
			}
			look(s.Body)
			look(s.Else)
		}
	}
	for _, f := range checked(t, wide).Fns {
		look(f.Body)
	}
}
