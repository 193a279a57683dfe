package parse

import (
	"reflect"
	"slices"
	"strings"
	"testing"

	"distaff/api"
	"distaff/tree"
)

// parsed is the program of a text that has no fault.
func parsed(t *testing.T, s string) api.Tree {
	t.Helper()
	p, fault := Parse(s)
	if fault != (api.Fault{}) {
		t.Fatalf("%.200q (of %d bytes): %v", s, len(s), fault)
	}
	return p
}

// inMain is a text whose statements are told; ahead of them stand the bytes of mainHead.
func inMain(s string) string { return mainHead + s + "}" }

const mainHead = "fn main(){"

// expr is the expression of a text, where it stands in that text.
func expr(t *testing.T, s string) api.Expr {
	t.Helper()
	return movedExprs(parsed(t, inMain("print "+s+";")).Fns[0].Body[0].Kids, -len(mainHead+"print "))[0]
}

// moved are statements as if they stood elsewhere.
func moved(l []api.Stmt, by int) []api.Stmt {
	var out []api.Stmt
	for _, s := range l {
		s.At += by
		s.Kids, s.Body, s.Else = movedExprs(s.Kids, by), moved(s.Body, by), moved(s.Else, by)
		out = append(out, s)
	}
	return out
}

func movedExprs(l []api.Expr, by int) []api.Expr {
	var out []api.Expr
	for _, e := range l {
		e.At += by
		e.Kids = movedExprs(e.Kids, by)
		out = append(out, e)
	}
	return out
}

// Promise 4.1: programs, and where their parts stand.

func TestExample(t *testing.T) {
	want := api.Tree{Fns: []api.Fn{{Name: "main", Ret: api.TypeInt, Body: []api.Stmt{
		{Kind: api.StmtReturn, At: 17, Kids: []api.Expr{
			{Kind: api.ExprBinary, At: 26, Op: api.OpAdd, Kids: []api.Expr{
				{Kind: api.ExprInt, At: 24, N: 1},
				{Kind: api.ExprInt, At: 28, N: 2},
			}},
		}},
	}}}}
	if p := parsed(t, "fn main(): int { return 1 + 2; }"); !reflect.DeepEqual(p, want) {
		t.Error(p)
	}
}

func TestNoFunctions(t *testing.T) {
	for _, s := range []string{"", " \n", "# fn"} {
		if p := parsed(t, s); len(p.Fns) != 0 {
			t.Error(p)
		}
	}
}

func TestFunctions(t *testing.T) {
	s := " fn f(a:int,b : bool,c:[int],d:[[ int ]] ):[[int]]{} fn g( ) { } fn f():[int]{}fn main():bool{}fn f(a:int){}"
	p := func(s string, n int) api.Param { return api.Param{Name: s, Type: n} }
	want := api.Tree{Fns: []api.Fn{
		{Name: "f", At: 1, Ret: api.TypeMat, Params: []api.Param{p("a", api.TypeInt), p("b", api.TypeBool), p("c", api.TypeArr), p("d", api.TypeMat)}},
		{Name: "g", At: strings.Index(s, "fn g")},
		{Name: "f", At: strings.Index(s, "fn f()"), Ret: api.TypeArr},
		{Name: "main", At: strings.Index(s, "fn main"), Ret: api.TypeBool},
		{Name: "f", At: strings.LastIndex(s, "fn"), Params: []api.Param{p("a", api.TypeInt)}},
	}}
	if p := parsed(t, s); !reflect.DeepEqual(p, want) {
		t.Error(p)
	}
}

func TestStatements(t *testing.T) {
	one := func(at int) api.Expr { return api.Expr{Kind: api.ExprInt, At: at, N: 1} }
	name := func(at int, s string) api.Expr { return api.Expr{Kind: api.ExprName, At: at, S: s} }
	of := func(kind, at int, s string, l ...api.Expr) api.Expr {
		return api.Expr{Kind: kind, At: at, S: s, Kids: l}
	}
	kids := func(l ...api.Expr) []api.Expr { return l }
	stop := func(at int) []api.Stmt { return []api.Stmt{{Kind: api.StmtBreak, At: at}} }
	for _, x := range []struct {
		s    string
		want api.Stmt
	}{
		{"var x = 1;", api.Stmt{Kind: api.StmtVar, S: "x", Kids: kids(one(8))}},
		{"x = 1;", api.Stmt{Kind: api.StmtSet, S: "x", Kids: kids(one(4))}},
		{"a[b] = 1;", api.Stmt{Kind: api.StmtPut, Kids: kids(of(api.ExprIndex, 1, "", name(0, "a"), name(2, "b")), one(7))}},
		{"a[b][c] = 1;", api.Stmt{Kind: api.StmtPut, Kids: kids(of(api.ExprIndex, 4, "", of(api.ExprIndex, 1, "", name(0, "a"), name(2, "b")), name(5, "c")), one(10))}},
		{"f(a)[b, c] = 1;", api.Stmt{Kind: api.StmtPut, Kids: kids(of(api.ExprIndex, 4, "", of(api.ExprCall, 0, "f", name(2, "a")), name(5, "b"), name(8, "c")), one(13))}},
		{"f();", api.Stmt{Kind: api.StmtCall, Kids: kids(of(api.ExprCall, 0, "f"))}},
		{"f(a, b);", api.Stmt{Kind: api.StmtCall, Kids: kids(of(api.ExprCall, 0, "f", name(2, "a"), name(5, "b")))}},
		{"if 1 { break; }", api.Stmt{Kind: api.StmtIf, Kids: kids(one(3)), Body: stop(7)}},
		{"if 1 { } else { break; }", api.Stmt{Kind: api.StmtIf, Kids: kids(one(3)), Else: stop(16)}},
		{"if 1 { break; } else { }", api.Stmt{Kind: api.StmtIf, Kids: kids(one(3)), Body: stop(7)}},
		{"if 1 { } else if a { break; }", api.Stmt{Kind: api.StmtIf, Kids: kids(one(3)), Else: []api.Stmt{
			{Kind: api.StmtIf, At: 14, Kids: kids(name(17, "a")), Body: stop(21)}}}},
		{"while 1 { break; }", api.Stmt{Kind: api.StmtWhile, Kids: kids(one(6)), Body: stop(10)}},
		{"for i = 1 to b { break; }", api.Stmt{Kind: api.StmtFor, S: "i", Step: 1, Kids: kids(one(8), name(13, "b")), Body: stop(17)}},
		{"for i = 1 to b step 7 { }", api.Stmt{Kind: api.StmtFor, S: "i", Step: 7, Kids: kids(one(8), name(13, "b"))}},
		{"for i = 1 to b step - 7 { }", api.Stmt{Kind: api.StmtFor, S: "i", Step: -7, Kids: kids(one(8), name(13, "b"))}},
		{"break;", api.Stmt{Kind: api.StmtBreak}},
		{"continue;", api.Stmt{Kind: api.StmtContinue}},
		{"return;", api.Stmt{Kind: api.StmtReturn}},
		{"return 1;", api.Stmt{Kind: api.StmtReturn, Kids: kids(one(7))}},
		{"print 1;", api.Stmt{Kind: api.StmtPrint, Kids: kids(one(6))}},
	} {
		got := moved(parsed(t, inMain(x.s)).Fns[0].Body, -len(mainHead))
		if !reflect.DeepEqual(got, []api.Stmt{x.want}) {
			t.Errorf("%q: %v, not %v", x.s, got, x.want)
		}
		got = moved(parsed(t, inMain(x.s+x.s)).Fns[0].Body, -len(mainHead))
		if len(got) != 2 || !reflect.DeepEqual(got[0], x.want) || !reflect.DeepEqual(moved(got[1:], -len(x.s)), got[:1]) {
			t.Errorf("%q twice: %v", x.s, got)
		}
	}
}

func TestSteps(t *testing.T) {
	for s, want := range map[string]int64{
		"": 1, "step 1": 1, "step -1": -1, "step 2": 2, "step 007": 7, "step - 3": -3, "step-3": -3,
		"step 9223372036854775807":   1<<63 - 1,
		"step -9223372036854775807":  -1<<63 + 1,
		"step 9223372036854775808":   -1 << 63,
		"step -9223372036854775808":  -1 << 63,
		"step 18446744073709551615":  -1,
		"step -18446744073709551615": 1,
	} {
		if got := parsed(t, inMain("for i = a to b "+s+" { }")).Fns[0].Body[0].Step; got != want {
			t.Errorf("%q: %d, not %d", s, got, want)
		}
	}
}

// An if behind else is that one statement: a second else is that one's.
func TestElse(t *testing.T) {
	for s, want := range map[string]string{
		"if a { b(); } else if c { d(); } else if e { } else { f(); } g();": `	if a {
		b();
	} else {
		if c {
			d();
		} else {
			if e {
			} else {
				f();
			}
		}
	}
	g();
`,
		"if a { if b { } } else { c(); }": "\tif a {\n\t\tif b {\n\t\t}\n\t} else {\n\t\tc();\n\t}\n",
	} {
		if got := tree.Print(parsed(t, inMain(s))); got != "fn main() {\n"+want+"}\n" {
			t.Errorf("%q: %s, not %s", s, got, want)
		}
	}
}

// places are kinds and places of an expression, ahead of those of its parts.
func places(e api.Expr) []int {
	l := []int{e.Kind, e.At}
	for _, k := range e.Kids {
		l = append(l, places(k)...)
	}
	return l
}

func TestWherePartsStand(t *testing.T) {
	const (
		num, name, one, two, call, index, made = api.ExprInt, api.ExprName, api.ExprUnary, api.ExprBinary, api.ExprCall, api.ExprIndex, api.ExprNew
	)
	for s, want := range map[string][]int{
		"12":           {num, 0},
		"true":         {api.ExprBool, 0},
		" ab":          {name, 1},
		"input":        {api.ExprInput, 0},
		"( ab )":       {name, 2},
		" - ab":        {one, 1, name, 3},
		"-(-ab)":       {one, 0, one, 2, name, 3},
		"ab  + c":      {two, 4, name, 0, name, 6},
		"(ab+c)*d":     {two, 6, two, 3, name, 1, name, 4, name, 7},
		"a && b":       {api.ExprAnd, 2, name, 0, name, 5},
		"a||b":         {api.ExprOr, 1, name, 0, name, 3},
		"a >>> b":      {two, 2, name, 0, name, 6},
		"a [b]":        {index, 2, name, 0, name, 3},
		"a[b][c , d]":  {index, 4, index, 1, name, 0, name, 2, name, 5, name, 9},
		"(a)[b]":       {index, 3, name, 1, name, 4},
		"-a[b]":        {one, 0, index, 2, name, 1, name, 3},
		"ff ( a, -b )": {call, 0, name, 5, one, 8, name, 9},
		"new [a]":      {made, 0, name, 5},
		"new[a, b][1]": {index, 9, made, 0, name, 4, name, 7, num, 10},
		"len(a)":       {api.ExprLen, 0, name, 4},
		"rows( a )":    {api.ExprRows, 0, name, 6},
		"cols (a)":     {api.ExprCols, 0, name, 6},
	} {
		if got := places(expr(t, s)); !slices.Equal(got, want) {
			t.Errorf("%q: %v, not %v", s, got, want)
		}
	}
}

// Promise 4.1: expressions.

// reads asks how an expression is printed: layer 3 puts brackets around each part.
func reads(t *testing.T, s, want string) {
	t.Helper()
	if got := tree.Expr(expr(t, s)); got != want {
		t.Errorf("%q: %q, not %q", s, got, want)
	}
}

func TestExpressions(t *testing.T) {
	for s, want := range map[string]string{
		"0":                    "0",
		"007":                  "7",
		"18446744073709551615": "18446744073709551615",
		"true":                 "true",
		"false":                "false",
		"input":                "input",
		"a_1":                  "a_1",
		"((a))":                "a",
		"f()":                  "f()",
		"f(a,b+1,g(c))":        "f(a, (b + 1), g(c))",
		"f((a),((b)))":         "f(a, b)",
		"a[i]":                 "a[i]",
		"a[i,j]":               "a[i, j]",
		"a[i][j,k][l]":         "a[i][j, k][l]",
		"f(a)[i]":              "f(a)[i]",
		"f(a)[b[i]]":           "f(a)[b[i]]",
		"(a+b)[i]":             "(a + b)[i]",
		"1[2]":                 "1[2]",
		"true[false]":          "true[false]",
		"input[input]":         "input[input]",
		"len(a)[0]":            "len(a)[0]",
		"new [n]":              "new [n]",
		"new [n+1,m]":          "new [(n + 1), m]",
		"new [n][i]":           "new [n][i]",
		"new [n][i][j,k]":      "new [n][i][j, k]",
		"new [new [n][0]]":     "new [new [n][0]]",
		"len(a)":               "len(a)",
		"rows(f(a))":           "rows(f(a))",
		"cols(a[0])":           "cols(a[0])",
		"-a":                   "(-a)",
		"~a":                   "(~a)",
		"!a":                   "(!a)",
		"--a":                  "(-(-a))",
		"!~-a":                 "(!(~(-a)))",
		"-1":                   "(-1)",
		"-a[i]":                "(-a[i])",
		"-f(a)[i]":             "(-f(a)[i])",
		"(-a)[i]":              "(-a)[i]",
		"-a*b":                 "((-a) * b)",
		"a- -b":                "(a - (-b))",
		"a--b":                 "(a - (-b))",
		"a-b-c":                "((a - b) - c)",
		"a-(b-c)":              "(a - (b - c))",
		"a+b*c":                "(a + (b * c))",
		"(a+b)*c":              "((a + b) * c)",
		"a<<b+c":               "(a << (b + c))",
		"a&b<<c":               "(a & (b << c))",
		"a|b&c":                "(a | (b & c))",
		"a^b|c^d":              "(((a ^ b) | c) ^ d)",
		"a==b|c":               "(a == (b | c))",
		"a<b&&c<d":             "((a < b) && (c < d))",
		"a||b&&c||d":           "((a || (b && c)) || d)",
		"a==b&&c||d!=e":        "(((a == b) && c) || (d != e))",
		"(a<b)<c":              "((a < b) < c)",
		"a<(b<c)":              "(a < (b < c))",
		"!a==b":                "((!a) == b)",
		"!(a==b)":              "(!(a == b))",
		"a>>>b>>c<<d":          "(((a >>> b) >> c) << d)",
	} {
		reads(t, s, want)
	}
}

// What signs between two say, rank by rank as the chapter tells them: Kind times 100, and Op.
var ranks = []map[string]int{
	{"||": 700},
	{"&&": 600},
	{"==": 517, "!=": 518, "<": 519, "<=": 520, ">": 521, ">=": 522},
	{"|": 510, "^": 511},
	{"&": 509},
	{"<<": 512, ">>": 513, ">>>": 514},
	{"+": 504, "-": 505},
	{"*": 506, "/": 507, "%": 508},
}

// compares is the rank of which a sign stands alone.
const compares = 2

// turns are what signs ahead of one say.
var turns = map[string]int{"-": 15, "~": 16, "!": 24}

func TestSigns(t *testing.T) {
	name := func(at int, s string) api.Expr { return api.Expr{Kind: api.ExprName, At: at, S: s} }
	for _, rank := range ranks {
		for s, n := range rank {
			want := api.Expr{Kind: n / 100, At: 2, Op: n % 100, Kids: []api.Expr{name(0, "a"), name(3+len(s), "b")}}
			if e := expr(t, "a "+s+" b"); !reflect.DeepEqual(e, want) {
				t.Errorf("%s: %v, not %v", s, e, want)
			}
		}
	}
	for s, op := range turns {
		want := api.Expr{Kind: api.ExprUnary, Op: op, Kids: []api.Expr{name(1, "a")}}
		if e := expr(t, s+"a"); !reflect.DeepEqual(e, want) {
			t.Errorf("%s: %v, not %v", s, e, want)
		}
	}
}

func TestPairsOfSigns(t *testing.T) {
	for first := range ranks {
		for x := range ranks[first] {
			for second := range ranks {
				for y := range ranks[second] {
					pair(t, first, second, x, y)
				}
			}
			reads(t, "-a "+x+" !b", "((-a) "+x+" (!b))")
			reads(t, "a[0] "+x+" ~b[1]", "(a[0] "+x+" (~b[1]))")
			reads(t, "(a "+x+" b) "+x+" c", "((a "+x+" b) "+x+" c)")
			reads(t, "a "+x+" (b "+x+" c)", "(a "+x+" (b "+x+" c))")
		}
	}
}

func pair(t *testing.T, first, second int, x, y string) {
	t.Helper()
	switch s := "a " + x + " b " + y + " c"; {
	case first == compares && second == compares:
		refused(t, inMain("print a "+x+" b $"+y+" c;"), api.FaultSyntax)
	case second > first:
		reads(t, s, "(a "+x+" (b "+y+" c))")
	default:
		reads(t, s, "((a "+x+" b) "+y+" c)")
	}
}

// The rules that hold everywhere.

func TestLongTexts(t *testing.T) {
	for _, s := range []string{"(", "-", "[", "{", "a[", "f(", "new [", "fn f(", "if a {", "if a { } else ", "a+", "a;", "!", "fn ", ",", "1", "while 1 { f(", ")", "}"} {
		for _, head := range []string{mainHead, mainHead + "print "} {
			long := head + strings.Repeat(s+" ", api.MostSource/8/(len(s)+1))
			if _, fault := Parse(long); fault.Kind != api.FaultSyntax && fault.Kind != api.FaultSize {
				t.Errorf("%q: %v", head+s, fault)
			}
		}
	}
	line := "x = a[i] + f(1, 2) * -3;"
	many := (api.MostSource - 20) / len(line)
	if p := parsed(t, inMain(strings.Repeat(line, many))); len(p.Fns[0].Body) != many {
		t.Error(len(p.Fns[0].Body))
	}
}

func TestAnswersAreOwn(t *testing.T) {
	s := "fn f(a: int, b: int) { a = 1 + f(a, a); if a { break; } else if b { } } fn g() { }"
	first, want := parsed(t, s), parsed(t, s)
	if !reflect.DeepEqual(first, want) {
		t.Fatal("not the same each time")
	}
	f := &first.Fns[0]
	f.Params[0].Name, f.Body[0].Kids[0].Kids[1].Kids[0].S = "b", "c"
	f.Body[1].Body[0].Kind, f.Body[1].Else[0].At = 9, 99
	if !reflect.DeepEqual(parsed(t, s), want) {
		t.Error("changed")
	}
}
