package lower

import (
	"reflect"
	"slices"
	"strconv"
	"strings"
	"testing"

	"distaff/api"
)

// filled is a text's statements that come to so many instructions, from 3 on.
func filled(many int) string {
	if many%2 == 1 {
		return "print -1; " + filled(many-3)
	}
	return strings.Repeat("print 1; ", many/2)
}

// big is a function that comes to so many instructions.
func big(name string, many int) string {
	return "fn " + name + "(): int { " + filled(many-1) + "return 0; }\n"
}

// refused holds a text's fault against the function that it is of.
func refused(t *testing.T, text, name string) {
	t.Helper()
	p, fault := Lower(checked(t, text))
	want := api.Fault{Kind: api.FaultSize, At: strings.Index(text, "fn "+name+"(")}
	if fault != want || len(p.Funcs) != 0 || p.Main != 0 {
		t.Errorf("%v and %d functions, not %v", fault, len(p.Funcs), want)
	}
}

// Promise 13.1: a function has at most MostValues instructions; the first one that has more is told.
func TestMostValues(t *testing.T) {
	if n := len(lowered(t, big("main", api.MostValues)).Funcs[0].Ins); n != api.MostValues {
		t.Fatalf("%d instructions", n)
	}
	small := "fn f(a: int): int { return a; }\n"
	refused(t, big("main", api.MostValues+1), "main")
	refused(t, small+big("main", api.MostValues+1), "main")
	refused(t, small+big("main", api.MostValues)+big("g", api.MostValues+1)+big("h", api.MostValues+1), "g")
	refused(t, small+big("g", 2*api.MostValues)+big("main", 10), "g")
	lowered(t, small+big("main", api.MostValues)+big("g", api.MostValues)+big("h", api.MostValues))
}

// Promise 13.1: all that a function comes to counts, arguments, checks and OpPhi, too; what it does not come to does not.
func TestWhatCounts(t *testing.T) {
	main := "fn main(): int { return 0; }\n"
	for _, c := range []struct {
		head, tail string
		many       int
	}{
		{"fn f(a: bool, x: int): int { ", "if a { x = 1; } return x; }", 4},
		{"fn f(a: bool, x: int): int { ", "if a { x = x; } return x; }", 2},
		{"fn f(a: bool, x: int): bool { ", "return a && x == x; }", 4},
		{"fn f(a: bool, x: int): int { ", "while a { x = 2; break; } return x; }", 4},
		{"fn f(a: bool, x: int): int { ", "for i = x to x { } return x; }", 6},
		{"fn f(a: [int], x: int) { ", "a[x] = x / x; }", 10},
		{"fn f(m: [[int]], x: int): int { ", "return m[x, x]; }", 11},
		{"fn f(x: int): [[int]] { ", "return new [x, x]; }", 10},
		{"fn f(x: int): int { ", "return x; print 1; while true { x = x + 1; print x; } return 2; }", 1},
	} {
		text := main + c.head + filled(api.MostValues-c.many) + c.tail
		if n := len(lowered(t, text).Funcs[1].Ins); n != api.MostValues {
			t.Fatalf("%s: %d instructions more than %d", c.tail, n-api.MostValues, c.many)
		}
		refused(t, main+c.head+filled(api.MostValues-c.many+1)+c.tail, "f")
	}
}

// lists are all lists of a program.
func lists(p *api.Prog) []*[]int {
	var all []*[]int
	for i := range p.Funcs {
		f := &p.Funcs[i]
		all = append(all, &f.Params)
		for id := range f.Ins {
			all = append(all, &f.Ins[id].Args)
		}
		for b := range f.Blocks {
			k := &f.Blocks[b]
			all = append(all, &k.List, &k.Preds, &k.Term.To)
		}
	}
	return all
}

const some = "fn f(a: [int], x: int): int { for i = 0 to x { a[i] = a[i] / x + g(a, x, true); if a[i] > 3 && x < 5 { continue; } x = x - 1; } return x; } fn g(a: [int], x: int, b: bool): int { return x; } fn main(): int { return f(new [4], 3); }"

// Rule 2: what is told is the caller's own, and shares nothing; what is handed in stays.
func TestOwn(t *testing.T) {
	p := checked(t, some)
	first := lowered(t, some)
	second, _ := Lower(p)
	all := lists(&second)
	for i, l := range all {
		for at := range *l {
			(*l)[at] = -i
		}
		*l = append(*l, -i)
	}
	for i, l := range all {
		if slices.ContainsFunc(*l, func(n int) bool { return n != -i }) {
			t.Fatal("lists that share")
		}
	}
	if !reflect.DeepEqual(p, checked(t, some)) {
		t.Error("the tree is another one")
	}
	// Rule 4: the same again.
	if again, _ := Lower(p); !reflect.DeepEqual(again, first) {
		t.Error("another program")
	}
	p.Fns[0].Params[0].Type, p.Fns[0].Body[0].N = api.TypeMat, 7
	if again := lowered(t, some); !reflect.DeepEqual(again, first) {
		t.Error("another program")
	}
}

// Of trees that Check would not tell no call breaks.
func TestNotChecked(t *testing.T) {
	for _, p := range []api.Tree{
		{},
		{Fns: []api.Fn{{Name: "f"}}},
		{Fns: []api.Fn{{Name: "main", Ret: api.TypeInt, Body: []api.Stmt{{Kind: api.StmtSet, N: 5}}}}},
		{Fns: []api.Fn{{Name: "main", Ret: api.TypeInt, Body: []api.Stmt{{Kind: api.StmtBreak}}}}},
		{Fns: []api.Fn{{Name: "main", Ret: api.TypeInt, Body: []api.Stmt{{Kind: api.StmtReturn, Kids: []api.Expr{{Kind: api.ExprName, N: -1}}}}}}},
		{Fns: []api.Fn{{Name: "main", Ret: api.TypeInt, Vars: 1, Body: []api.Stmt{{Kind: api.StmtReturn, Kids: []api.Expr{{Kind: api.ExprName}}}}}}},
		{Fns: []api.Fn{{Name: "main", Ret: api.TypeInt, Body: []api.Stmt{{Kind: api.StmtReturn, Kids: []api.Expr{{Kind: api.ExprBinary, Op: api.OpDiv}}}}}}},
	} {
		out, fault := Lower(p)
		if len(out.Funcs) != 0 || out.Main != 0 || fault != (api.Fault{}) {
			t.Errorf("%+v: %+v, %v", p, out, fault)
		}
	}
	Lower(api.Tree{Fns: []api.Fn{{Name: "main", Vars: 1 << 60}}})
	// One that only is of wrong numbers or types may come to anything.
	Lower(api.Tree{Fns: []api.Fn{{Name: "main", Vars: -1, Body: []api.Stmt{{Kind: 99}, {Kind: api.StmtCall, Kids: []api.Expr{{Kind: 99}}}}}}})
}

// Texts as long as they may be come to their programs without much ado.
func TestLong(t *testing.T) {
	many := func(n int, of func(i int) string) string {
		var b strings.Builder
		for i := range n {
			b.WriteString(of(i))
		}
		return b.String()
	}
	name := func(i int) string { return "V" + strconv.FormatInt(int64(i), 36) }
	always := func(s string) func(int) string { return func(int) string { return s } }
	vars := many(20000, func(i int) string { return "var " + name(i) + "=x;" })
	sum := many(20000, func(i int) string { return "x=x+" + name(i) + ";" })
	sets := many(20000, func(i int) string { return name(i) + "=y;" })
	for _, text := range []string{
		many(100000, always("if b{}")),
		many(60000, always("while b{}")),
		many(60000, always("while b{x=y;}")),
		vars + many(60000, always("if b{}")) + sum,
		vars + many(40000, always("if b{x=y;}")) + sum,
		vars + "while b{" + many(40000, always("if b{break;}")) + "}" + sum,
		vars + "while b{" + many(15000, always("if b{continue;}")) + sets + many(15000, always("if b{break;}")) + "}",
		vars + many(250, always("while b{")) + sets + many(250, always("}")) + "x=V0;",
		vars + many(250, always("if b{")) + sets + many(250, always("}")) + "x=V0;",
		vars + many(25, always("while b{")) + many(20000, func(i int) string { return name(i) + "=" + name(i) + ";" }) + many(25, always("}")) + sum,
		many(250, always("if b{")) + many(100000, always("x=y;")) + many(250, always("}")),
		many(3000, always("b=b"+strings.Repeat("&&b", 100)+";")),
	} {
		text = "fn main():int{return f(1,2,true);}fn f(x:int,y:int,b:bool):int{" + text + "return x;}"
		if len(text) > api.MostSource {
			t.Fatalf("%d bytes", len(text))
		}
		lowered(t, text)
	}
}
