package lower

import (
	"fmt"
	"slices"
	"strings"
	"testing"

	"distaff/api"
	"distaff/check"
	"distaff/ir"
	"distaff/parse"
	"distaff/sound"
)

// names are how instructions are called in these tests.
var names = []string{
	"none", "const", "param", "phi", "add", "sub", "mul", "div", "rem", "and", "or", "xor", "shl", "shr", "ushr", "neg", "not",
	"eq", "ne", "lt", "le", "gt", "ge", "ult", "flip", "select", "len", "rows", "cols", "load", "new", "new2", "store", "print", "input", "guard", "call",
}

// checked is the checked program of a text.
func checked(t testing.TB, text string) api.Tree {
	t.Helper()
	p, fault := parse.Parse(text)
	if fault.Kind == api.FaultNone {
		p, fault = check.Check(p)
	}
	if fault.Kind != api.FaultNone {
		t.Fatalf("fault %v of %.1000s", fault, text)
	}
	return p
}

// lowered is the lowered program of a text: sound, without what the promise rules out.
func lowered(t testing.TB, text string) api.Prog {
	t.Helper()
	p, fault := Lower(checked(t, text))
	if fault != (api.Fault{}) {
		t.Fatalf("fault %v of %.1000s", fault, text)
	}
	fine(t, p)
	return p
}

// fine asks what is promised of each program that is told, apart from what it does.
func fine(t testing.TB, p api.Prog) {
	t.Helper()
	if why, which := sound.Prog(p); why != api.FlawNone {
		t.Fatalf("flaw %d of function %d:\n%s", why, which, ir.Print(p.Funcs[which]))
	}
	for _, f := range p.Funcs {
		for id, x := range f.Ins {
			others := slices.DeleteFunc(slices.Clone(x.Args), func(a int) bool { return a == id })
			slices.Sort(others)
			if x.Op == api.OpPhi && len(slices.Compact(others)) < 2 {
				t.Fatalf("OpPhi %d is one instruction:\n%s", id, ir.Print(f))
			}
		}
		if len(f.Ins) > api.MostValues || !ir.Same(ir.Compact(f), f) {
			t.Fatalf("%d instructions, or not compact", len(f.Ins))
		}
	}
}

// body is a program whose main has such statements, and then comes to 0.
func body(text string) string { return "fn main(): int { " + text + " return 0; }" }

// said is a function in short: each block with its instructions (# is N, @ is To) and its end.
func said(f api.Func) string {
	var blocks []string
	for _, k := range f.Blocks {
		var parts []string
		for _, id := range k.List {
			parts = append(parts, one(f, id))
		}
		end := []string{"none", "jump", "branch", "ret"}[k.Term.Kind]
		if k.Term.Arg >= 0 {
			end += fmt.Sprint(" ", k.Term.Arg)
		}
		for _, to := range k.Term.To {
			end += fmt.Sprint(" :", to)
		}
		blocks = append(blocks, strings.Join(append(parts, end), ", "))
	}
	return strings.Join(blocks, " | ")
}

func one(f api.Func, id int) string {
	x := f.Ins[id]
	s := fmt.Sprint(id, "=", names[x.Op])
	if x.Op == api.OpConst || x.Op == api.OpParam || x.Op == api.OpGuard {
		s += fmt.Sprint("#", x.N)
	}
	if x.Op == api.OpCall {
		s += fmt.Sprint("@", x.To)
	}
	for _, a := range x.Args {
		s += fmt.Sprint(" ", a)
	}
	return s
}

// each holds the first function of texts against what should come of it.
func each(t *testing.T, want map[string]string) {
	t.Helper()
	for text, w := range want {
		if got := said(lowered(t, text).Funcs[0]); got != w {
			t.Errorf("%s:\n%s, not\n%s", text, got, w)
		}
	}
}

// The chapter's example.
func TestExample(t *testing.T) {
	p := lowered(t, "fn main(): int { return 1 + 2; }")
	want := api.Func{
		Name:   "main",
		Ret:    api.TypeInt,
		Ins:    []api.Ins{{Op: api.OpConst, Type: api.TypeInt, N: 1}, {Op: api.OpConst, Type: api.TypeInt, N: 2}, {Op: api.OpAdd, Type: api.TypeInt, Args: []int{0, 1}}},
		Blocks: []api.Block{{List: []int{0, 1, 2}, Term: ir.Ret(2)}},
	}
	if p.Main != 0 || len(p.Funcs) != 1 || !ir.Same(p.Funcs[0], want) {
		t.Errorf("%+v", p)
	}
}

// Promise 13.1: each number, truth, sign, input, call, len, rows, cols and print is one instruction, needed or not; names are none.
func TestOneInstructionEach(t *testing.T) {
	each(t, map[string]string{
		body(""):                              "0=const#0, ret 0",
		body("print 18446744073709551615;"):   "0=const#-1, 1=print 0, 2=const#0, ret 2",
		body("print -9223372036854775808;"):   "0=const#-9223372036854775808, 1=neg 0, 2=print 1, 3=const#0, ret 3",
		body("print true;"):                   "0=const#1, 1=print 0, 2=const#0, ret 2",
		body("var b = false;"):                "0=const#0, 1=const#0, ret 1",
		body("var b = !true;"):                "0=const#1, 1=flip 0, 2=const#0, ret 2",
		body("print ~5;"):                     "0=const#5, 1=not 0, 2=print 1, 3=const#0, ret 3",
		body("var a = input; var b = input;"): "0=input, 1=input, 2=const#0, ret 2",
		body("var a = 1; var b = 1;"):         "0=const#1, 1=const#1, 2=const#0, ret 2",
		body("var a = 1; var b = a; var c = b; c = a; print c + b;"):                                    "0=const#1, 1=add 0 0, 2=print 1, 3=const#0, ret 3",
		body("var a = 1; a = a - 2; a = a * a;"):                                                        "0=const#1, 1=const#2, 2=sub 0 1, 3=mul 2 2, 4=const#0, ret 4",
		"fn f(a: [int], m: [[int]]) { print len(a) + rows(m) + cols(m); } fn main(): int { return 0; }": "0=param#0, 1=param#1, 2=len 0, 3=rows 1, 4=add 2 3, 5=cols 1, 6=add 4 5, 7=print 6, ret",
		"fn f(a: int, b: bool, c: int): bool { return b; } fn main(): int { return 0; }":                "0=param#0, 1=param#1, 2=param#2, ret 1",
		"fn f(a: int): int { return f(f(1) + f(a)); } fn main(): int { return 0; }":                     "0=param#0, 1=const#1, 2=call@0 1, 3=call@0 0, 4=add 2 3, 5=call@0 4, ret 5",
		"fn f(a: int) { main(); f(2); g(); } fn g() { } fn main(): int { return 0; }":                   "0=param#0, 1=call@2, 2=const#2, 3=call@0 2, 4=call@1, ret",
		"fn f() { return; } fn main(): int { return 0; }":                                               "ret",
		"fn f() { } fn main(): int { return 0; }":                                                       "ret",
	})
}

// Promise 13.1: each sign is its operation, of its type.
func TestSigns(t *testing.T) {
	for sign, op := range map[string]int{
		"+": api.OpAdd, "-": api.OpSub, "*": api.OpMul, "&": api.OpAnd, "|": api.OpOr, "^": api.OpXor, "<<": api.OpShl, ">>": api.OpShr, ">>>": api.OpUshr,
		"==": api.OpEq, "!=": api.OpNe, "<": api.OpLt, "<=": api.OpLe, ">": api.OpGt, ">=": api.OpGe,
	} {
		each(t, map[string]string{body("print 7 " + sign + " 3;"): "0=const#7, 1=const#3, 2=" + names[op] + " 0 1, 3=print 2, 4=const#0, ret 4"})
	}
	each(t, map[string]string{
		body("print true == false;"): "0=const#1, 1=const#0, 2=eq 0 1, 3=print 2, 4=const#0, ret 4",
		body("print true != false;"): "0=const#1, 1=const#0, 2=ne 0 1, 3=print 2, 4=const#0, ret 4",
	})
}

// Promise 13.1: the second number of / and % is held against 0, each time.
func TestDivideIsChecked(t *testing.T) {
	each(t, map[string]string{
		body("print 7 / 2;"): "0=const#7, 1=const#2, 2=const#0, 3=ne 1 2, 4=guard#2 3, 5=div 0 1, 6=print 5, 7=const#0, ret 7",
		body("print 7 % 0;"): "0=const#7, 1=const#0, 2=const#0, 3=ne 1 2, 4=guard#2 3, 5=rem 0 1, 6=print 5, 7=const#0, ret 7",
		"fn f(a: int, b: int): int { return a / b % b; } fn main(): int { return 0; }": "0=param#0, 1=param#1, 2=const#0, 3=ne 1 2, 4=guard#2 3, 5=div 0 1, 6=const#0, 7=ne 1 6, 8=guard#2 7, 9=rem 5 1, ret 9",
	})
}

// Promise 13.1: an index is held against how many there are, behind what is put was reckoned; a cell of rows of rows is the row times the columns, and the column.
func TestIndexIsChecked(t *testing.T) {
	each(t, map[string]string{
		"fn f(a: [int], i: int): int { return a[i]; } fn main(): int { return 0; }":              "0=param#0, 1=param#1, 2=len 0, 3=ult 1 2, 4=guard#1 3, 5=load 0 1, ret 5",
		"fn f(a: [int]) { a[input] = input; } fn main(): int { return 0; }":                      "0=param#0, 1=input, 2=input, 3=len 0, 4=ult 1 3, 5=guard#1 4, 6=store 0 1 2, ret",
		"fn f(m: [[int]], i: int, j: int): int { return m[i, j]; } fn main(): int { return 0; }": "0=param#0, 1=param#1, 2=param#2, 3=rows 0, 4=ult 1 3, 5=guard#1 4, 6=cols 0, 7=ult 2 6, 8=guard#1 7, 9=mul 1 6, 10=add 9 2, 11=load 0 10, ret 11",
		"fn f(m: [[int]], i: int, j: int) { m[i, j] = i / j; } fn main(): int { return 0; }":     "0=param#0, 1=param#1, 2=param#2, 3=const#0, 4=ne 2 3, 5=guard#2 4, 6=div 1 2, 7=rows 0, 8=ult 1 7, 9=guard#1 8, 10=cols 0, 11=ult 2 10, 12=guard#1 11, 13=mul 1 10, 14=add 13 2, 15=store 0 14 6, ret",
		"fn f(a: [int]): int { return a[a[0]]; } fn main(): int { return 0; }":                   "0=param#0, 1=const#0, 2=len 0, 3=ult 1 2, 4=guard#1 3, 5=load 0 1, 6=len 0, 7=ult 5 6, 8=guard#1 7, 9=load 0 5, ret 9",
	})
}

// Promise 13.1: how many cells new makes, each number and both together, is below MostCells and 1.
func TestNewIsChecked(t *testing.T) {
	each(t, map[string]string{
		"fn f(n: int): [int] { return new [n]; } fn main(): int { return 0; }":              "0=param#0, 1=const#65537, 2=ult 0 1, 3=guard#3 2, 4=new 0, ret 4",
		"fn f(n: int, m: int): [[int]] { return new [n, m]; } fn main(): int { return 0; }": "0=param#0, 1=param#1, 2=const#65537, 3=ult 0 2, 4=guard#3 3, 5=ult 1 2, 6=guard#3 5, 7=mul 0 1, 8=ult 7 2, 9=guard#3 8, 10=new2 0 1, ret 10",
	})
}

// Promise 13.1: && and || are none but OpPhi.
func TestShort(t *testing.T) {
	of := func(s string) string {
		return "fn f(a: bool, b: bool): bool { return " + s + "; } fn main(): int { return 0; }"
	}
	each(t, map[string]string{
		of("a && b"):        "0=param#0, 1=param#1, branch 0 :1 :2 | jump :2 | 2=phi 0 1, ret 2",
		of("a || b"):        "0=param#0, 1=param#1, branch 0 :2 :1 | jump :2 | 2=phi 0 1, ret 2",
		of("a && a"):        "0=param#0, 1=param#1, branch 0 :1 :2 | jump :2 | ret 0",
		of("a && !b"):       "0=param#0, 1=param#1, branch 0 :1 :2 | 2=flip 1, jump :2 | 3=phi 0 2, ret 3",
		of("a || b && !a"):  "0=param#0, 1=param#1, branch 0 :2 :1 | branch 1 :3 :4 | 2=phi 0 4, ret 2 | 3=flip 0, jump :4 | 4=phi 1 3, jump :2",
		of("(a && b) == b"): "0=param#0, 1=param#1, branch 0 :1 :2 | jump :2 | 2=phi 0 1, 3=eq 2 1, ret 3",
	})
}

// Promise 13.1: what a variable is where ways come together is an OpPhi, if it is not one instruction by all of them.
func TestChoose(t *testing.T) {
	of := func(s string) string {
		return "fn f(a: bool, x: int): int { " + s + " return x; } fn main(): int { return 0; }"
	}
	each(t, map[string]string{
		of("if a { }"):                                       "0=param#0, 1=param#1, branch 0 :1 :2 | jump :2 | ret 1",
		of("if a { } else { }"):                              "0=param#0, 1=param#1, branch 0 :1 :2 | jump :2 | ret 1",
		of("if a { x = 3; }"):                                "0=param#0, 1=param#1, branch 0 :1 :2 | 2=const#3, jump :2 | 3=phi 1 2, ret 3",
		of("if a { x = 3; } else { x = 4; }"):                "0=param#0, 1=param#1, branch 0 :1 :2 | 2=const#3, jump :3 | 3=const#4, jump :3 | 4=phi 2 3, ret 4",
		of("if a { x = 3; } else { print x; }"):              "0=param#0, 1=param#1, branch 0 :1 :2 | 2=const#3, jump :3 | 3=print 1, jump :3 | 4=phi 2 1, ret 4",
		of("if a { x = x; } else { }"):                       "0=param#0, 1=param#1, branch 0 :1 :2 | jump :2 | ret 1",
		of("if a { x = 3; return x; }"):                      "0=param#0, 1=param#1, branch 0 :1 :2 | 2=const#3, ret 2 | ret 1",
		of("if a { x = 3; } else { return x; }"):             "0=param#0, 1=param#1, branch 0 :1 :2 | 2=const#3, jump :3 | ret 1 | ret 2",
		of("if a { var y = 3; y = 4; } else { var y = 5; }"): "0=param#0, 1=param#1, branch 0 :1 :2 | 2=const#3, 3=const#4, jump :3 | 4=const#5, jump :3 | ret 1",
		"fn f(a: bool): int { if a { return 1; } else { return 2; } } fn main(): int { return 0; }": "0=param#0, branch 0 :1 :2 | 1=const#1, ret 1 | 2=const#2, ret 2",
	})
}

// Promise 13.1: a loop's head asks each time; what is set in the loop is an OpPhi there, if it is needed, and not one instruction.
func TestWhile(t *testing.T) {
	of := func(s string) string {
		return "fn f(a: bool, x: int): int { " + s + " return x; } fn main(): int { return 0; }"
	}
	each(t, map[string]string{
		of("while a { }"):                                  "0=param#0, 1=param#1, jump :1 | branch 0 :2 :3 | jump :1 | ret 1",
		of("while a { x = x; }"):                           "0=param#0, 1=param#1, jump :1 | branch 0 :2 :3 | jump :1 | ret 1",
		of("while a { x = x + 1; }"):                       "0=param#0, 1=param#1, jump :1 | 2=phi 1 4, branch 0 :2 :3 | 3=const#1, 4=add 2 3, jump :1 | ret 2",
		of("while a { x = 2; break; }"):                    "0=param#0, 1=param#1, jump :1 | branch 0 :2 :3 | 2=const#2, jump :3 | 3=phi 1 2, ret 3",
		of("while a { continue; }"):                        "0=param#0, 1=param#1, jump :1 | branch 0 :2 :3 | jump :1 | ret 1",
		of("while a { return x; }"):                        "0=param#0, 1=param#1, jump :1 | branch 0 :2 :3 | ret 1 | ret 1",
		of("while x < input { var y = x; y = 1; x = y; }"): "0=param#0, 1=param#1, jump :1 | 2=phi 1 5, 3=input, 4=lt 2 3, branch 4 :2 :3 | 5=const#1, jump :1 | ret 2",
	})
}

// Promise 13.1: a loop that counts reckons both numbers ahead, and ends by OpLt (OpGt, of a step below 0) at its head.
func TestCount(t *testing.T) {
	of := func(s string) string {
		return "fn f(a: bool, x: int): int { " + s + " return x; } fn main(): int { return 0; }"
	}
	each(t, map[string]string{
		of("for i = 1 to x { }"):                            "0=param#0, 1=param#1, 2=const#1, jump :1 | 3=phi 2 6, 4=lt 3 1, branch 4 :2 :4 | jump :3 | 5=const#1, 6=add 3 5, jump :1 | ret 1",
		of("for i = x to 1 step -3 { }"):                    "0=param#0, 1=param#1, 2=const#1, jump :1 | 3=phi 1 6, 4=gt 3 2, branch 4 :2 :4 | jump :3 | 5=const#-3, 6=add 3 5, jump :1 | ret 1",
		of("for i = x to x step 18446744073709551615 { }"):  "0=param#0, 1=param#1, jump :1 | 2=phi 1 5, 3=gt 2 1, branch 3 :2 :4 | jump :3 | 4=const#-1, 5=add 2 4, jump :1 | ret 1",
		of("for i = x to x step -18446744073709551615 { }"): "0=param#0, 1=param#1, jump :1 | 2=phi 1 5, 3=lt 2 1, branch 3 :2 :4 | jump :3 | 4=const#1, 5=add 2 4, jump :1 | ret 1",
		of("for i = input to input { x = x + i; }"):         "0=param#0, 1=param#1, 2=input, 3=input, jump :1 | 4=phi 2 9, 5=phi 1 7, 6=lt 4 3, branch 6 :2 :4 | 7=add 5 4, jump :3 | 8=const#1, 9=add 4 8, jump :1 | ret 5",
		of("for i = x to 3 { if a { continue; } x = i; }"):  "0=param#0, 1=param#1, 2=const#3, jump :1 | 3=phi 1 8, 4=phi 1 6, 5=lt 3 2, branch 5 :2 :4 | branch 0 :5 :6 | 6=phi 4 3, 7=const#1, 8=add 3 7, jump :1 | ret 4 | jump :3 | jump :3",
		of("for i = x to 3 { break; }"):                     "0=param#0, 1=param#1, 2=const#3, jump :1 | 3=lt 1 2, branch 3 :2 :3 | jump :3 | ret 1",
		of("for i = x to 3 { return i; }"):                  "0=param#0, 1=param#1, 2=const#3, jump :1 | 3=lt 1 2, branch 3 :2 :3 | ret 1 | ret 1",
	})
}

// Promise 13.1: what is not reached is not there.
func TestNotReached(t *testing.T) {
	of := func(s string) string {
		return "fn f(a: bool, x: int): int { " + s + " return x; } fn main(): int { return 0; }"
	}
	each(t, map[string]string{
		of("return 1; print 2; x = 3; if a { print 4; }"):               "0=param#0, 1=param#1, 2=const#1, ret 2",
		of("if a { return 1; } else { return 2; } print 3; return x; "): "0=param#0, 1=param#1, branch 0 :1 :2 | 2=const#1, ret 2 | 3=const#2, ret 3",
		of("while a { break; x = 2; }"):                                 "0=param#0, 1=param#1, jump :1 | branch 0 :2 :3 | jump :3 | ret 1",
		of("while a { if a { continue; } else { break; } print 1; }"):   "0=param#0, 1=param#1, jump :1 | branch 0 :2 :3 | branch 0 :4 :5 | ret 1 | jump :1 | jump :3",
		of("while true { }"): "0=param#0, 1=param#1, jump :1 | 2=const#1, branch 2 :2 :3 | jump :1 | ret 1",
	})
}

// Promise 13.1: names, arguments, what functions come to, and their order are the tree's; Main is main.
func TestFunctions(t *testing.T) {
	p := lowered(t, "fn zero() { } fn a(x: int, b: bool, r: [int], m: [[int]]): [[int]] { return m; } fn main(): int { return 0; } fn r(r: [int]): [int] { return r; } fn b(): bool { return true; }")
	if p.Main != 2 || len(p.Funcs) != 5 {
		t.Fatalf("%+v", p)
	}
	want := []api.Func{
		{Name: "zero"},
		{Name: "a", Params: []int{api.TypeInt, api.TypeBool, api.TypeArr, api.TypeMat}, Ret: api.TypeMat},
		{Name: "main", Ret: api.TypeInt},
		{Name: "r", Params: []int{api.TypeArr}, Ret: api.TypeArr},
		{Name: "b", Ret: api.TypeBool},
	}
	for i, w := range want {
		if f := p.Funcs[i]; f.Name != w.Name || f.Ret != w.Ret || !slices.Equal(f.Params, w.Params) {
			t.Errorf("%d: %+v", i, f)
		}
	}
}
