package tree

import (
	"fmt"
	"math"
	"math/rand"
	"reflect"
	"slices"
	"strconv"
	"strings"
	"testing"

	"distaff/api"
)

// Short ways to make trees.

func number(n int64) api.Expr { return api.Expr{Kind: api.ExprInt, N: n} }

func name(s string) api.Expr { return api.Expr{Kind: api.ExprName, S: s} }

func of(kind int, kids ...api.Expr) api.Expr { return api.Expr{Kind: kind, Kids: kids} }

func sign(kind, op int, kids ...api.Expr) api.Expr { return api.Expr{Kind: kind, Op: op, Kids: kids} }

func call(s string, kids ...api.Expr) api.Expr {
	return api.Expr{Kind: api.ExprCall, S: s, Kids: kids}
}

func kids(l ...api.Expr) []api.Expr { return l }

func block(l ...api.Stmt) []api.Stmt { return l }

func program(l ...api.Stmt) api.Tree { return api.Tree{Fns: []api.Fn{{Name: "f", Body: l}}} }

func TestNumbersOfKinds(t *testing.T) {
	types := []int{api.TypeVoid, api.TypeInt, api.TypeBool, api.TypeArr, api.TypeMat}
	if !slices.Equal(types, []int{0, 1, 2, 3, 4}) {
		t.Error("types", types)
	}
	exprs := []int{api.ExprInt, api.ExprBool, api.ExprName, api.ExprUnary, api.ExprBinary, api.ExprAnd, api.ExprOr,
		api.ExprCall, api.ExprIndex, api.ExprNew, api.ExprLen, api.ExprRows, api.ExprCols, api.ExprInput}
	if !slices.Equal(exprs, []int{1, 2, 3, 4, 5, 6, 7, 8, 9, 10, 11, 12, 13, 14}) {
		t.Error("expressions", exprs)
	}
	stmts := []int{api.StmtVar, api.StmtSet, api.StmtPut, api.StmtIf, api.StmtWhile, api.StmtFor,
		api.StmtBreak, api.StmtContinue, api.StmtReturn, api.StmtPrint, api.StmtCall}
	if !slices.Equal(stmts, []int{1, 2, 3, 4, 5, 6, 7, 8, 9, 10, 11}) {
		t.Error("statements", stmts)
	}
}

// Promise 3.1: words, signs, digits.

func TestTypeName(t *testing.T) {
	words := map[int]string{1: "int", 2: "bool", 3: "[int]", 4: "[[int]]"}
	for _, n := range odd() {
		if got := TypeName(n); got != words[n] {
			t.Errorf("TypeName(%d): %q, not %q", n, got, words[n])
		}
	}
}

// odd are numbers of all kinds, and numbers of none.
func odd() []int {
	l := []int{math.MinInt, -1 << 32, 1<<8 + 1, 1<<32 + 1, 1<<32 + 4, math.MaxInt}
	for n := -40; n <= 80; n++ {
		l = append(l, n)
	}
	return l
}

// signs stand by numbers, as layer 1 tells them.
var signs = map[int]string{
	4: "+", 5: "-", 6: "*", 7: "/", 8: "%", 9: "&", 10: "|", 11: "^", 12: "<<", 13: ">>", 14: ">>>",
	15: "-", 16: "~", 17: "==", 18: "!=", 19: "<", 20: "<=", 21: ">", 22: ">=", 24: "!",
}

func TestSign(t *testing.T) {
	for _, op := range odd() {
		if got := Sign(op); got != signs[op] {
			t.Errorf("Sign(%d): %q, not %q", op, got, signs[op])
		}
	}
	if Sign(api.OpUlt) != "" || Sign(api.OpNone) != "" || Sign(api.OpSelect) != "" {
		t.Error("the sign of an operation without one")
	}
}

func TestDigits(t *testing.T) {
	for n, want := range map[int64]string{
		0: "0", 1: "1", 9: "9", 10: "10", 99: "99", 100: "100", 1234567890: "1234567890",
		math.MaxInt64:     "9223372036854775807",
		math.MinInt64:     "9223372036854775808",
		math.MinInt64 + 1: "9223372036854775809",
		-2:                "18446744073709551614",
		-1:                "18446744073709551615",
	} {
		if got := Digits(n); got != want {
			t.Errorf("Digits(%d): %q, not %q", n, got, want)
		}
	}
	for power := uint64(1); ; power *= 10 {
		for _, n := range []uint64{power - 1, power, power + 1, 7 * power, -power, ^power} {
			if got := Digits(int64(n)); got != strconv.FormatUint(n, 10) {
				t.Errorf("Digits(%d): %q", n, got)
			}
		}
		if power > math.MaxUint64/10 {
			break
		}
	}
	chance := rand.New(rand.NewSource(1))
	for range 20000 {
		n := chance.Uint64() >> chance.Intn(64)
		if got := Digits(int64(n)); got != strconv.FormatUint(n, 10) {
			t.Errorf("Digits(%d): %q", n, got)
		}
	}
}

// Promise 3.1: expressions.

func TestExpr(t *testing.T) {
	a, i, j := name("a"), name("i"), name("j")
	for _, x := range []struct {
		e    api.Expr
		want string
	}{
		{sign(api.ExprBinary, api.OpAdd, a, number(1)), "(a + 1)"},
		{number(0), "0"},
		{number(-1), "18446744073709551615"},
		{number(math.MinInt64), "9223372036854775808"},
		{api.Expr{Kind: api.ExprBool}, "false"},
		{api.Expr{Kind: api.ExprBool, N: 1}, "true"},
		{name("x_1"), "x_1"},
		{of(api.ExprInput), "input"},
		{sign(api.ExprUnary, api.OpNeg, number(1)), "(-1)"},
		{sign(api.ExprUnary, api.OpNot, a), "(~a)"},
		{sign(api.ExprUnary, api.OpFlip, a), "(!a)"},
		{sign(api.ExprUnary, api.OpNeg, sign(api.ExprUnary, api.OpNeg, a)), "(-(-a))"},
		{sign(api.ExprUnary, api.OpUlt, a), "(a)"},
		{sign(api.ExprBinary, api.OpUlt, a, i), "(a  i)"},
		{sign(api.ExprBinary, api.OpSub, sign(api.ExprBinary, api.OpSub, a, i), j), "((a - i) - j)"},
		{sign(api.ExprBinary, api.OpSub, a, sign(api.ExprBinary, api.OpSub, i, j)), "(a - (i - j))"},
		{of(api.ExprAnd, a, of(api.ExprOr, i, j)), "(a && (i || j))"},
		{of(api.ExprOr, of(api.ExprAnd, a, i), j), "((a && i) || j)"},
		{call("f"), "f()"},
		{call("f", a), "f(a)"},
		{call("f", a, i, call("g", j)), "f(a, i, g(j))"},
		{of(api.ExprIndex, a, i), "a[i]"},
		{of(api.ExprIndex, a, i, j), "a[i, j]"},
		{of(api.ExprIndex, of(api.ExprIndex, a, i), j), "a[i][j]"},
		{of(api.ExprIndex, call("f", i), of(api.ExprIndex, a, j)), "f(i)[a[j]]"},
		{of(api.ExprIndex, of(api.ExprNew, i), j), "new [i][j]"},
		{of(api.ExprNew, i), "new [i]"},
		{of(api.ExprNew, i, number(3)), "new [i, 3]"},
		{of(api.ExprLen, a), "len(a)"},
		{of(api.ExprRows, a), "rows(a)"},
		{of(api.ExprCols, a), "cols(a)"},
	} {
		if got := Expr(x.e); got != x.want {
			t.Errorf("%v: %q, not %q", x.e, got, x.want)
		}
	}
}

func TestExprOfAllSigns(t *testing.T) {
	for op, s := range signs {
		if got := Expr(sign(api.ExprBinary, op, name("a"), name("b"))); got != "(a "+s+" b)" {
			t.Error(op, got)
		}
		if got := Expr(sign(api.ExprUnary, op, name("a"))); got != "("+s+"a)" {
			t.Error(op, got)
		}
	}
}

func TestExprThatLacks(t *testing.T) {
	a := name("a")
	for _, x := range []struct {
		e    api.Expr
		want string
	}{
		{sign(api.ExprUnary, api.OpNeg), "(-)"},
		{sign(api.ExprBinary, api.OpAdd), "( + )"},
		{sign(api.ExprBinary, api.OpAdd, a), "(a + )"},
		{of(api.ExprAnd), "( && )"},
		{of(api.ExprOr, a), "(a || )"},
		{of(api.ExprIndex), "[]"},
		{of(api.ExprIndex, a), "a[]"},
		{of(api.ExprNew), "new []"},
		{of(api.ExprLen), "len()"},
		{of(api.ExprRows), "rows()"},
		{of(api.ExprCols), "cols()"},
		{name(""), ""},
		{call(""), "()"},
		{sign(api.ExprBinary, api.OpAdd, api.Expr{}, a), "( + a)"},
		{call("f", of(99), a, of(-1)), "f(, a, )"},
		{of(api.ExprIndex, of(0, a), a), "[a]"},
	} {
		if got := Expr(x.e); got != x.want {
			t.Errorf("%v: %q, not %q", x.e, got, x.want)
		}
	}
	for _, kind := range odd() {
		if kind >= api.ExprInt && kind <= api.ExprInput {
			continue
		}
		if got := Expr(api.Expr{Kind: kind, Op: api.OpAdd, N: 7, S: "s", Kids: kids(a, a)}); got != "" {
			t.Errorf("kind %d: %q", kind, got)
		}
	}
}

// What is known of an expression, and where it stands, is not printed.
func TestExprIsWhatItSays(t *testing.T) {
	e := api.Expr{Kind: api.ExprCall, At: 5, Type: api.TypeInt, Op: api.OpAdd, N: 3, S: "f", Kids: kids(api.Expr{Kind: api.ExprName, At: 7, Type: api.TypeBool, N: 2, S: "x"})}
	if got := Expr(e); got != "f(x)" {
		t.Error(got)
	}
}

// Promise 3.1: programs.

func TestPrintOfStatements(t *testing.T) {
	a, i, one := name("a"), name("i"), number(1)
	for _, x := range []struct {
		s    api.Stmt
		want string
	}{
		{api.Stmt{Kind: api.StmtVar, S: "x", Kids: kids(one)}, "\tvar x = 1;\n"},
		{api.Stmt{Kind: api.StmtSet, S: "x", Kids: kids(one)}, "\tx = 1;\n"},
		{api.Stmt{Kind: api.StmtPut, Kids: kids(of(api.ExprIndex, a, i), one)}, "\ta[i] = 1;\n"},
		{api.Stmt{Kind: api.StmtPut, Kids: kids(of(api.ExprIndex, a, i, one), i)}, "\ta[i, 1] = i;\n"},
		{api.Stmt{Kind: api.StmtBreak}, "\tbreak;\n"},
		{api.Stmt{Kind: api.StmtContinue}, "\tcontinue;\n"},
		{api.Stmt{Kind: api.StmtReturn}, "\treturn;\n"},
		{api.Stmt{Kind: api.StmtReturn, Kids: kids(one)}, "\treturn 1;\n"},
		{api.Stmt{Kind: api.StmtPrint, Kids: kids(sign(api.ExprUnary, api.OpNeg, a))}, "\tprint (-a);\n"},
		{api.Stmt{Kind: api.StmtCall, Kids: kids(call("g", a, i))}, "\tg(a, i);\n"},
		{api.Stmt{Kind: api.StmtIf, Kids: kids(a)}, "\tif a {\n\t}\n"},
		{api.Stmt{Kind: api.StmtWhile, Kids: kids(a)}, "\twhile a {\n\t}\n"},
		{api.Stmt{Kind: api.StmtFor, S: "i", Step: 1, Kids: kids(one, a)}, "\tfor i = 1 to a {\n\t}\n"},
	} {
		if got := Print(program(x.s)); got != "fn f() {\n"+x.want+"}\n" {
			t.Errorf("%v: %q, not %q", x.s, got, x.want)
		}
	}
}

func TestPrintOfSteps(t *testing.T) {
	for step, want := range map[int64]string{
		1: "", 2: " step 2", 10: " step 10", 0: " step 0", -1: " step -1", -2: " step -2",
		math.MaxInt64:     " step 9223372036854775807",
		math.MinInt64:     " step -9223372036854775808",
		math.MinInt64 + 1: " step -9223372036854775807",
	} {
		s := api.Stmt{Kind: api.StmtFor, S: "i", Step: step, Kids: kids(number(0), name("n"))}
		if got := Print(program(s)); got != "fn f() {\n\tfor i = 0 to n"+want+" {\n\t}\n}\n" {
			t.Errorf("step %d: %q", step, got)
		}
	}
}

func TestPrintOfFunctions(t *testing.T) {
	p := func(s string, n int) api.Param { return api.Param{Name: s, Type: n} }
	for _, x := range []struct {
		f    api.Fn
		want string
	}{
		{api.Fn{Name: "f"}, "fn f() {\n}\n"},
		{api.Fn{Name: "f", Ret: api.TypeInt}, "fn f(): int {\n}\n"},
		{api.Fn{Name: "f", Ret: api.TypeMat, Params: []api.Param{p("a", api.TypeInt)}}, "fn f(a: int): [[int]] {\n}\n"},
		{api.Fn{Name: "g_1", Ret: api.TypeBool, Params: []api.Param{p("a", api.TypeArr), p("b", api.TypeMat), p("c", api.TypeBool)}}, "fn g_1(a: [int], b: [[int]], c: bool): bool {\n}\n"},
		{api.Fn{Name: "f", Params: []api.Param{p("a", api.TypeVoid), p("b", 9)}}, "fn f(a: , b: ) {\n}\n"},
		{api.Fn{Name: "f", At: 5, Vars: 7, Ret: api.TypeArr}, "fn f(): [int] {\n}\n"},
	} {
		if got := Print(api.Tree{Fns: []api.Fn{x.f}}); got != x.want {
			t.Errorf("%v: %q, not %q", x.f, got, x.want)
		}
	}
	if got := Print(api.Tree{}); got != "" {
		t.Errorf("of no functions: %q", got)
	}
	if got := Print(api.Tree{Fns: []api.Fn{{Name: "f"}, {Name: "g", Ret: api.TypeInt}, {Name: "f"}}}); got != "fn f() {\n}\nfn g(): int {\n}\nfn f() {\n}\n" {
		t.Errorf("of several functions: %q", got)
	}
}

func TestPrintOfBlocks(t *testing.T) {
	a, one := name("a"), number(1)
	stop, next, back := api.Stmt{Kind: api.StmtBreak}, api.Stmt{Kind: api.StmtContinue}, api.Stmt{Kind: api.StmtReturn, Kids: kids(one)}
	inner := api.Stmt{Kind: api.StmtIf, Kids: kids(name("b")), Body: block(next), Else: block(stop)}
	got := Print(api.Tree{Fns: []api.Fn{{Name: "main", Ret: api.TypeInt, Body: block(
		api.Stmt{Kind: api.StmtWhile, Kids: kids(a), Body: block(
			api.Stmt{Kind: api.StmtFor, S: "i", Step: -3, Kids: kids(one, a), Body: block(
				api.Stmt{Kind: api.StmtIf, Kids: kids(a), Body: block(stop, next), Else: block(inner)},
				stop,
			)},
			api.Stmt{Kind: api.StmtIf, Kids: kids(a), Body: nil, Else: block(stop)},
			api.Stmt{Kind: api.StmtIf, Kids: kids(a), Body: block(stop), Else: []api.Stmt{}},
		)},
		back,
	)}}})
	want := `fn main(): int {
	while a {
		for i = 1 to a step -3 {
			if a {
				break;
				continue;
			} else {
				if b {
					continue;
				} else {
					break;
				}
			}
			break;
		}
		if a {
		} else {
			break;
		}
		if a {
			break;
		}
	}
	return 1;
}
`
	if got != want {
		t.Errorf("%s, not %s", got, want)
	}
}

func TestPrintThatLacks(t *testing.T) {
	for _, x := range []struct {
		s    api.Stmt
		want string
	}{
		{api.Stmt{Kind: api.StmtVar, S: "x"}, "\tvar x = ;\n"},
		{api.Stmt{Kind: api.StmtSet, S: "x"}, "\tx = ;\n"},
		{api.Stmt{Kind: api.StmtPut}, "\t = ;\n"},
		{api.Stmt{Kind: api.StmtPut, Kids: kids(name("a"))}, "\ta = ;\n"},
		{api.Stmt{Kind: api.StmtIf, Else: block(api.Stmt{})}, "\tif  {\n\t} else {\n\t}\n"},
		{api.Stmt{Kind: api.StmtWhile}, "\twhile  {\n\t}\n"},
		{api.Stmt{Kind: api.StmtFor}, "\tfor  =  to  step 0 {\n\t}\n"},
		{api.Stmt{Kind: api.StmtFor, S: "i", Step: 1, Kids: kids(number(2))}, "\tfor i = 2 to  {\n\t}\n"},
		{api.Stmt{Kind: api.StmtReturn, Kids: kids(of(99))}, "\treturn ;\n"},
		{api.Stmt{Kind: api.StmtPrint}, "\tprint ;\n"},
		{api.Stmt{Kind: api.StmtCall}, "\t;\n"},
	} {
		if got := Print(program(x.s)); got != "fn f() {\n"+x.want+"}\n" {
			t.Errorf("%v: %q, not %q", x.s, got, x.want)
		}
	}
	for _, kind := range odd() {
		if kind >= api.StmtVar && kind <= api.StmtCall {
			continue
		}
		s := api.Stmt{Kind: kind, S: "x", Step: 2, Kids: kids(name("a"), name("b")), Body: block(api.Stmt{Kind: api.StmtBreak}), Else: block(api.Stmt{Kind: api.StmtBreak})}
		if got := Print(program(s)); got != "fn f() {\n}\n" {
			t.Errorf("kind %d: %q", kind, got)
		}
	}
}

// maker makes trees by chance, odd ones among them.
type maker struct{ *rand.Rand }

func (m maker) word() string { return string(rune('a' + m.Intn(3))) }

func (m maker) expr(deep int) api.Expr {
	e := api.Expr{Kind: m.Intn(16), At: m.Intn(3), Type: m.Intn(5), Op: m.Intn(26), N: int64(m.Intn(3)), S: m.word()}
	if m.Intn(4) == 0 {
		e.N = int64(m.Uint64())
	}
	e.Kids = m.exprs(deep)
	return e
}

func (m maker) exprs(deep int) []api.Expr {
	if deep == 0 {
		return nil
	}
	l := []api.Expr{}
	for range m.Intn(4) {
		l = append(l, m.expr(deep-1))
	}
	return l
}

func (m maker) block(deep int) []api.Stmt {
	if deep == 0 {
		return nil
	}
	l := []api.Stmt{}
	for range m.Intn(4) {
		l = append(l, api.Stmt{Kind: m.Intn(13), At: m.Intn(3), N: int64(m.Intn(3)), S: m.word(), Step: int64(m.Intn(5) - 2), Kids: m.exprs(3), Body: m.block(deep - 1), Else: m.block(deep - 1)})
	}
	return l
}

func (m maker) tree() api.Tree {
	var t api.Tree
	for range m.Intn(3) {
		f := api.Fn{Name: m.word(), At: m.Intn(3), Ret: m.Intn(5), Body: m.block(3), Vars: m.Intn(3)}
		for range m.Intn(4) {
			f.Params = append(f.Params, api.Param{Name: m.word(), Type: m.Intn(6)})
		}
		t.Fns = append(t.Fns, f)
	}
	return t
}

// The other printing goes by forms: $0 and $1 are kids, $* all, $+ all but the first one, $s the name, $o the sign.

var exprForms = []string{"", "", "", "$s", "($o$0)", "($0 $o $1)", "($0 && $1)", "($0 || $1)", "$s($*)", "$0[$+]", "new [$*]", "len($0)", "rows($0)", "cols($0)", "input", ""}

func byForm(form, s, sign string, l []api.Expr) string {
	var texts []string
	for _, k := range l {
		texts = append(texts, exprByForm(k))
	}
	at := func(which int) string {
		if which < len(texts) {
			return texts[which]
		}
		return ""
	}
	behind := ""
	if len(texts) > 1 {
		behind = strings.Join(texts[1:], ", ")
	}
	return strings.NewReplacer("$s", s, "$o", sign, "$0", at(0), "$1", at(1), "$*", strings.Join(texts, ", "), "$+", behind).Replace(form)
}

func exprByForm(e api.Expr) string {
	switch {
	case e.Kind == api.ExprInt:
		return fmt.Sprint(uint64(e.N))
	case e.Kind == api.ExprBool:
		return fmt.Sprint(e.N != 0)
	}
	return byForm(exprForms[e.Kind], e.S, signs[e.Op], e.Kids)
}

func blockByForm(l []api.Stmt) string {
	forms := []string{"", "var $s = $0;", "$s = $0;", "$0 = $1;", "if $0 {", "while $0 {", "for $s = $0 to $1$o {", "break;", "continue;", "return $0;", "print $0;", "$0;", ""}
	var lines []string
	for _, s := range l {
		step := fmt.Sprintf(" step %d", s.Step)
		if s.Step == 1 {
			step = ""
		}
		first := byForm(forms[s.Kind], s.S, step, s.Kids)
		if s.Kind == api.StmtReturn && len(s.Kids) == 0 {
			first = "return;"
		}
		if first == "" {
			continue
		}
		lines = append(lines, first+"\n")
		if s.Kind < api.StmtIf || s.Kind > api.StmtFor {
			continue
		}
		lines = append(lines, indented(blockByForm(s.Body)))
		if s.Kind == api.StmtIf && len(s.Else) > 0 {
			lines = append(lines, "} else {\n", indented(blockByForm(s.Else)))
		}
		lines = append(lines, "}\n")
	}
	return strings.Join(lines, "")
}

func indented(s string) string {
	var b strings.Builder
	for _, line := range strings.SplitAfter(s, "\n") {
		if line != "" {
			b.WriteString("\t" + line)
		}
	}
	return b.String()
}

func printByForm(t api.Tree) string {
	types := []string{"", "int", "bool", "[int]", "[[int]]", ""}
	var b strings.Builder
	for _, f := range t.Fns {
		var params []string
		for _, p := range f.Params {
			params = append(params, p.Name+": "+types[p.Type])
		}
		ret := ": " + types[f.Ret]
		if f.Ret == 0 {
			ret = ""
		}
		fmt.Fprintf(&b, "fn %s(%s)%s {\n%s}\n", f.Name, strings.Join(params, ", "), ret, indented(blockByForm(f.Body)))
	}
	return b.String()
}

func TestPrintAgainstForms(t *testing.T) {
	m := maker{rand.New(rand.NewSource(1))}
	for range 3000 {
		e := m.expr(4)
		if got, want := Expr(e), exprByForm(e); got != want {
			t.Fatalf("%v: %q, not %q", e, got, want)
		}
		p := m.tree()
		if got, want := Print(p), printByForm(p); got != want {
			t.Fatalf("%v: %s, not %s", p, got, want)
		}
	}
}

// Promise 3.2.

// plain is an expression without what is not asked.
func plain(e api.Expr) api.Expr {
	e.At, e.Type = 0, 0
	if e.Kind != api.ExprInt && e.Kind != api.ExprBool {
		e.N = 0
	}
	e.Kids = plainExprs(e.Kids)
	return e
}

func plainExprs(l []api.Expr) []api.Expr {
	var out []api.Expr
	for _, e := range l {
		out = append(out, plain(e))
	}
	return out
}

func plainBlock(l []api.Stmt) []api.Stmt {
	var out []api.Stmt
	for _, s := range l {
		s.At, s.N = 0, 0
		s.Kids, s.Body, s.Else = plainExprs(s.Kids), plainBlock(s.Body), plainBlock(s.Else)
		out = append(out, s)
	}
	return out
}

func plainTree(t api.Tree) api.Tree {
	var out api.Tree
	for _, f := range t.Fns {
		f.At, f.Vars = 0, 0
		f.Params, f.Body = append([]api.Param(nil), f.Params...), plainBlock(f.Body)
		out.Fns = append(out.Fns, f)
	}
	return out
}

func TestSameExprField(t *testing.T) {
	base := func(kind int) api.Expr {
		return api.Expr{Kind: kind, At: 3, Type: 1, Op: 4, N: 5, S: "s", Kids: kids(name("a"), number(2))}
	}
	for kind := 0; kind <= 15; kind++ {
		counts := kind == api.ExprInt || kind == api.ExprBool
		for _, x := range []struct {
			what   string
			change func(e *api.Expr)
			same   bool
		}{
			{"nothing", func(e *api.Expr) {}, true},
			{"At", func(e *api.Expr) { e.At = 9 }, true},
			{"Type", func(e *api.Expr) { e.Type = 2 }, true},
			{"N", func(e *api.Expr) { e.N = -5 }, !counts},
			{"the highest bits of N", func(e *api.Expr) { e.N += 1 << 32 }, !counts},
			{"Kind", func(e *api.Expr) { e.Kind += 16 }, false},
			{"Op", func(e *api.Expr) { e.Op = 5 }, false},
			{"S", func(e *api.Expr) { e.S = "S" }, false},
			{"no kids", func(e *api.Expr) { e.Kids = nil }, false},
			{"fewer kids", func(e *api.Expr) { e.Kids = e.Kids[:1] }, false},
			{"more kids", func(e *api.Expr) { e.Kids = append(e.Kids, api.Expr{}) }, false},
			{"the order of kids", func(e *api.Expr) { e.Kids[0], e.Kids[1] = e.Kids[1], e.Kids[0] }, false},
			{"the first kid", func(e *api.Expr) { e.Kids[0].S = "b" }, false},
			{"the last kid", func(e *api.Expr) { e.Kids[1].N = 3 }, false},
			{"At of a kid", func(e *api.Expr) { e.Kids[1].At = 3 }, true},
			{"Type of a kid", func(e *api.Expr) { e.Kids[0].Type = 3 }, true},
			{"what a kid's name stands for", func(e *api.Expr) { e.Kids[0].N = 3 }, true},
		} {
			a, b := base(kind), base(kind)
			x.change(&b)
			if SameExpr(a, b) != x.same || SameExpr(b, a) != x.same {
				t.Errorf("kind %d, %s: not %t", kind, x.what, x.same)
			}
		}
	}
}

func TestSameField(t *testing.T) {
	base := func() api.Tree {
		return api.Tree{Fns: []api.Fn{
			{Name: "f", At: 2, Params: []api.Param{{Name: "a", Type: 1}, {Name: "b", Type: 2}}, Ret: 1, Vars: 4, Body: block(
				api.Stmt{Kind: api.StmtIf, At: 1, N: 2, S: "s", Step: 3, Kids: kids(name("a"), number(7)), Body: block(api.Stmt{Kind: api.StmtBreak}), Else: block(api.Stmt{Kind: api.StmtContinue})},
				api.Stmt{Kind: api.StmtReturn},
			)},
			{Name: "g"},
		}}
	}
	stmt := func(t *api.Tree) *api.Stmt { return &t.Fns[0].Body[0] }
	for _, x := range []struct {
		what   string
		change func(t *api.Tree)
		same   bool
	}{
		{"nothing", func(t *api.Tree) {}, true},
		{"At of a function", func(t *api.Tree) { t.Fns[0].At = 9 }, true},
		{"Vars", func(t *api.Tree) { t.Fns[0].Vars = 9 }, true},
		{"At of a statement", func(t *api.Tree) { stmt(t).At = 9 }, true},
		{"N of a statement", func(t *api.Tree) { stmt(t).N = 9 }, true},
		{"At, Type and N of a name", func(t *api.Tree) { stmt(t).Kids[0] = api.Expr{Kind: api.ExprName, At: 3, Type: 1, N: 4, S: "a"} }, true},
		{"nil and empty", func(t *api.Tree) { t.Fns[1].Body, t.Fns[1].Params = []api.Stmt{}, []api.Param{} }, true},
		{"Name", func(t *api.Tree) { t.Fns[1].Name = "h" }, false},
		{"Ret", func(t *api.Tree) { t.Fns[1].Ret = 1 }, false},
		{"name of an argument", func(t *api.Tree) { t.Fns[0].Params[1].Name = "c" }, false},
		{"type of an argument", func(t *api.Tree) { t.Fns[0].Params[1].Type = 1 }, false},
		{"fewer arguments", func(t *api.Tree) { t.Fns[0].Params = t.Fns[0].Params[:1] }, false},
		{"more arguments", func(t *api.Tree) { t.Fns[1].Params = []api.Param{{}} }, false},
		{"no functions", func(t *api.Tree) { t.Fns = nil }, false},
		{"fewer functions", func(t *api.Tree) { t.Fns = t.Fns[:1] }, false},
		{"more functions", func(t *api.Tree) { t.Fns = append(t.Fns, api.Fn{}) }, false},
		{"the order of functions", func(t *api.Tree) { t.Fns[0], t.Fns[1] = t.Fns[1], t.Fns[0] }, false},
		{"fewer statements", func(t *api.Tree) { t.Fns[0].Body = t.Fns[0].Body[:1] }, false},
		{"more statements", func(t *api.Tree) { t.Fns[1].Body = block(api.Stmt{}) }, false},
		{"Kind", func(t *api.Tree) { stmt(t).Kind = api.StmtWhile }, false},
		{"Kind of the last one", func(t *api.Tree) { t.Fns[0].Body[1].Kind = api.StmtBreak }, false},
		{"S", func(t *api.Tree) { stmt(t).S = "S" }, false},
		{"Step", func(t *api.Tree) { stmt(t).Step = -3 }, false},
		{"the highest bits of Step", func(t *api.Tree) { stmt(t).Step += 1 << 32 }, false},
		{"fewer kids", func(t *api.Tree) { stmt(t).Kids = stmt(t).Kids[:1] }, false},
		{"the last kid", func(t *api.Tree) { stmt(t).Kids[1].N = 8 }, false},
		{"Body", func(t *api.Tree) { stmt(t).Body[0].S = "b" }, false},
		{"Else", func(t *api.Tree) { stmt(t).Else[0].Step = 1 }, false},
		{"no Body", func(t *api.Tree) { stmt(t).Body = nil }, false},
		{"no Else", func(t *api.Tree) { stmt(t).Else = nil }, false},
		{"Body and Else", func(t *api.Tree) { stmt(t).Body, stmt(t).Else = stmt(t).Else, stmt(t).Body }, false},
	} {
		a, b := base(), base()
		x.change(&b)
		if Same(a, b) != x.same || Same(b, a) != x.same {
			t.Errorf("%s: not %t", x.what, x.same)
		}
	}
	if !Same(api.Tree{}, api.Tree{}) || !Same(api.Tree{}, api.Tree{Fns: []api.Fn{}}) {
		t.Error("of no functions")
	}
}

// changed is a copy of a tree: what is not asked was made otherwise, and by chance what is asked, too.
func changed(m maker, t api.Tree) api.Tree {
	out := plainTree(t)
	for f := range out.Fns {
		out.Fns[f].At, out.Fns[f].Vars = m.Intn(9), m.Intn(9)
		for i := range out.Fns[f].Body {
			s := &out.Fns[f].Body[i]
			s.At, s.N = m.Intn(9), int64(m.Intn(9))
			for k := range s.Kids {
				s.Kids[k].Type = m.Intn(9)
				if m.Intn(40) == 0 {
					s.Kids[k].N++
				}
			}
			if m.Intn(40) == 0 {
				s.Body = nil
			}
		}
	}
	return out
}

func TestSameAgainstPlain(t *testing.T) {
	m := maker{rand.New(rand.NewSource(2))}
	var counts [2]int
	for range 3000 {
		a := m.tree()
		b := changed(m, a)
		same := reflect.DeepEqual(plainTree(a), plainTree(b))
		if Same(a, b) != same || Same(b, a) != same {
			t.Fatalf("%v and %v: not %t", a, b, same)
		}
		if same {
			counts[1]++
		} else {
			counts[0]++
		}
		if same && Print(a) != Print(b) {
			t.Fatalf("%v and %v are the same, but not printed so", a, b)
		}
		c, d := m.expr(2), m.expr(2)
		if SameExpr(c, d) != reflect.DeepEqual(plain(c), plain(d)) || !SameExpr(c, plain(c)) {
			t.Fatalf("%v and %v", c, d)
		}
	}
	if min(counts[0], counts[1]) < 100 {
		t.Error("too few trees of one kind", counts)
	}
}

// The rules that hold everywhere.

func TestManyLevels(t *testing.T) {
	const levels = 1 << 16
	deep := func(last string) api.Expr {
		e := name(last)
		for range levels {
			e = sign(api.ExprUnary, api.OpNeg, e)
		}
		return e
	}
	if got := Expr(deep("a")); got != strings.Repeat("(-", levels)+"a"+strings.Repeat(")", levels) {
		t.Error("of", len(got), "bytes")
	}
	if !SameExpr(deep("a"), deep("a")) || SameExpr(deep("a"), deep("b")) {
		t.Error("expressions within one another")
	}
	nest := func(last string) api.Tree {
		s := api.Stmt{Kind: api.StmtSet, S: last}
		for range levels {
			s = api.Stmt{Kind: api.StmtIf, Else: block(s)}
		}
		return program(s)
	}
	if !Same(nest("a"), nest("a")) || Same(nest("a"), nest("b")) {
		t.Error("statements within one another")
	}
}

func TestBlocksWithinOneAnother(t *testing.T) {
	const levels = 1000
	s, want := api.Stmt{Kind: api.StmtBreak}, strings.Repeat("\t", levels+1)+"break;\n"
	for deep := levels; deep > 0; deep-- {
		tabs := strings.Repeat("\t", deep)
		s, want = api.Stmt{Kind: api.StmtWhile, Kids: kids(name("a")), Body: block(s)}, tabs+"while a {\n"+want+tabs+"}\n"
	}
	if got := Print(program(s)); got != "fn f() {\n"+want+"}\n" {
		t.Error("of", len(got), "bytes, not", len(want))
	}
}

func TestWide(t *testing.T) {
	const many = 200000
	if got := Expr(call("f", slices.Repeat(kids(name("a")), many)...)); got != "f("+strings.Repeat("a, ", many-1)+"a)" {
		t.Error("of", len(got), "bytes")
	}
	if got := Print(program(slices.Repeat(block(api.Stmt{Kind: api.StmtBreak}), many)...)); got != "fn f() {\n"+strings.Repeat("\tbreak;\n", many)+"}\n" {
		t.Error("of", len(got), "bytes")
	}
}

func TestNothingIsChanged(t *testing.T) {
	made := func() []api.Tree {
		m := maker{rand.New(rand.NewSource(3))}
		var l []api.Tree
		for range 50 {
			l = append(l, m.tree())
		}
		return l
	}
	first, second := made(), made()
	for i := range first {
		if !Same(first[i], second[i]) || Print(first[i]) != Print(second[i]) || Print(first[i]) != Print(first[i]) {
			t.Error("not the same each time", i)
		}
	}
	if !reflect.DeepEqual(first, made()) || !reflect.DeepEqual(second, made()) {
		t.Error("what was handed in is changed")
	}
}
