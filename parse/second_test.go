package parse

import (
	"math/rand"
	"reflect"
	"slices"
	"strconv"
	"strings"
	"testing"

	"distaff/api"
	"distaff/lex"
	"distaff/tree"
)

// maker lays down a text word by word, by chance, and the program that it says, with its places.
type maker struct {
	*rand.Rand
	text strings.Builder
	last string
}

func newMaker(seed int64) *maker { return &maker{Rand: rand.New(rand.NewSource(seed))} }

// word is where a word was laid down, behind a gap, if it needs one, or by chance.
func (m *maker) word(s string) int {
	inName := func(c byte) bool { return lex.Name("a" + string(rune(c))) }
	gaps := []string{"", "", "", " ", "\n", "\t", "\r\n", "# fn ( 1 $\n", "  "}
	gap := gaps[m.Intn(len(gaps))]
	if gap == "" && m.last != "" && inName(m.last[len(m.last)-1]) && inName(s[0]) {
		gap = " "
	}
	m.text.WriteString(gap)
	at := m.text.Len()
	m.text.WriteString(s)
	m.last = s
	return at
}

func (m *maker) name() string { return []string{"a", "b", "i", "to_", "_1", "fn2"}[m.Intn(6)] }

// expr is one whose sign binds as much as that of a rank, from 0 on, or more; 8 stands for signs ahead, 9 for indexes, 10 for all else.
func (m *maker) expr(rank, size int) api.Expr {
	if m.Intn(8) == 0 && size > 0 {
		return m.bracketed(size)
	}
	if size > 0 {
		rank += m.Intn(11 - rank)
	} else {
		rank = 10
	}
	switch rank {
	case 8:
		sign := []string{"-", "~", "!"}[m.Intn(3)]
		at := m.word(sign)
		return api.Expr{Kind: api.ExprUnary, At: at, Op: turns[sign], Kids: []api.Expr{m.expr(8, size-1)}}
	case 9:
		return m.index(m.expr(9, size-1), size)
	case 10:
		return m.first(size)
	}
	return m.between(rank, size)
}

func (m *maker) bracketed(size int) api.Expr {
	m.word("(")
	e := m.expr(0, size-1)
	m.word(")")
	return e
}

func (m *maker) between(rank, size int) api.Expr {
	left := rank
	if rank == compares {
		left++
	}
	first := m.expr(left, size-1)
	var signs []string
	for s := range ranks[rank] {
		signs = append(signs, s)
	}
	slices.Sort(signs)
	sign := signs[m.Intn(len(signs))]
	at := m.word(sign)
	n := ranks[rank][sign]
	return api.Expr{Kind: n / 100, At: at, Op: n % 100, Kids: []api.Expr{first, m.expr(rank+1, size-1)}}
}

func (m *maker) index(of api.Expr, size int) api.Expr {
	at := m.word("[")
	return api.Expr{Kind: api.ExprIndex, At: at, Kids: append([]api.Expr{of}, m.list("]", 1+m.Intn(2), size)...)}
}

func (m *maker) list(end string, many, size int) []api.Expr {
	var l []api.Expr
	for i := range many {
		if i > 0 {
			m.word(",")
		}
		l = append(l, m.expr(0, size-1))
	}
	m.word(end)
	return l
}

func (m *maker) first(size int) api.Expr {
	kinds := []string{"name", "name", "number", "true", "false", "input", "call", "new", "len", "rows", "cols"}
	switch kind := kinds[m.Intn(len(kinds))]; kind {
	case "name":
		s := m.name()
		return api.Expr{Kind: api.ExprName, At: m.word(s), S: s}
	case "number":
		n := m.Uint64() >> m.Intn(64)
		return api.Expr{Kind: api.ExprInt, At: m.word(strconv.FormatUint(n, 10)), N: int64(n)}
	case "true":
		return api.Expr{Kind: api.ExprBool, At: m.word(kind), N: 1}
	case "false":
		return api.Expr{Kind: api.ExprBool, At: m.word(kind)}
	case "call":
		return m.call(size)
	case "new":
		at := m.word(kind)
		m.word("[")
		return api.Expr{Kind: api.ExprNew, At: at, Kids: m.list("]", 1+m.Intn(2), size)}
	case "len", "rows", "cols":
		at := m.word(kind)
		m.word("(")
		return api.Expr{Kind: map[string]int{"len": 11, "rows": 12, "cols": 13}[kind], At: at, Kids: m.list(")", 1, size)}
	}
	return api.Expr{Kind: api.ExprInput, At: m.word("input")}
}

func (m *maker) call(size int) api.Expr {
	s := m.name()
	at := m.word(s)
	m.word("(")
	many := m.Intn(4)
	if size <= 0 {
		many = 0
	}
	return api.Expr{Kind: api.ExprCall, At: at, S: s, Kids: m.list(")", many, size)}
}

func (m *maker) block(size int) []api.Stmt {
	m.word("{")
	var l []api.Stmt
	for range m.Intn(4) {
		l = append(l, m.stmt(size-1))
	}
	m.word("}")
	return l
}

func (m *maker) stmt(size int) api.Stmt {
	kind := 1 + m.Intn(11)
	if size <= 0 && kind >= api.StmtIf && kind <= api.StmtFor {
		kind = api.StmtPrint
	}
	if kind >= api.StmtIf && kind <= api.StmtFor {
		return m.around(kind, size)
	}
	s := m.simple(kind, size)
	m.word(";")
	return s
}

func (m *maker) simple(kind, size int) api.Stmt {
	s := api.Stmt{Kind: kind}
	switch kind {
	case api.StmtVar:
		s.At = m.word("var")
		s.S = m.name()
		m.word(s.S)
	case api.StmtSet:
		s.S = m.name()
		s.At = m.word(s.S)
	case api.StmtPut:
		return m.put(size)
	case api.StmtCall:
		e := m.call(size)
		return api.Stmt{Kind: kind, At: e.At, Kids: []api.Expr{e}}
	default:
		s.At = m.word(map[int]string{7: "break", 8: "continue", 9: "return", 10: "print"}[kind])
	}
	if kind <= api.StmtSet {
		m.word("=")
	}
	if kind <= api.StmtSet || kind == api.StmtPrint || kind == api.StmtReturn && m.Intn(2) == 0 {
		s.Kids = []api.Expr{m.expr(0, size)}
	}
	return s
}

func (m *maker) put(size int) api.Stmt {
	var e api.Expr
	if m.Intn(3) == 0 {
		e = m.call(size)
	} else {
		s := m.name()
		e = api.Expr{Kind: api.ExprName, At: m.word(s), S: s}
	}
	at := e.At
	for range 1 + m.Intn(2) {
		e = m.index(e, size)
	}
	m.word("=")
	return api.Stmt{Kind: api.StmtPut, At: at, Kids: []api.Expr{e, m.expr(0, size)}}
}

func (m *maker) around(kind, size int) api.Stmt {
	s := api.Stmt{Kind: kind, At: m.word(map[int]string{4: "if", 5: "while", 6: "for"}[kind])}
	if kind == api.StmtFor {
		return m.count(s, size)
	}
	s.Kids = []api.Expr{m.expr(0, size)}
	s.Body = m.block(size)
	if kind == api.StmtWhile || m.Intn(2) == 0 {
		return s
	}
	m.word("else")
	if m.Intn(2) == 0 && size > 1 {
		s.Else = []api.Stmt{m.around(api.StmtIf, size-1)}
	} else {
		s.Else = m.block(size)
	}
	return s
}

func (m *maker) count(s api.Stmt, size int) api.Stmt {
	s.S = m.name()
	m.word(s.S)
	m.word("=")
	s.Kids = append(s.Kids, m.expr(0, size))
	m.word("to")
	s.Kids = append(s.Kids, m.expr(0, size))
	s.Step = 1
	if m.Intn(2) == 0 {
		m.word("step")
		s.Step = int64(1 + m.Intn(9))
		word := strconv.FormatInt(s.Step, 10)
		if m.Intn(2) == 0 {
			m.word("-")
			s.Step = -s.Step
		}
		m.word(word)
	}
	s.Body = m.block(size)
	return s
}

func (m *maker) kind() int {
	kind := 1 + m.Intn(4)
	for _, s := range [][]string{nil, {"int"}, {"bool"}, {"[", "int", "]"}, {"[", "[", "int", "]", "]"}}[kind] {
		m.word(s)
	}
	return kind
}

func (m *maker) tree(size int) api.Tree {
	var t api.Tree
	for range 1 + m.Intn(2) {
		f := api.Fn{At: m.word("fn"), Name: m.name()}
		m.word(f.Name)
		m.word("(")
		for i := range m.Intn(4) {
			if i > 0 {
				m.word(",")
			}
			a := api.Param{Name: m.name()}
			m.word(a.Name)
			m.word(":")
			a.Type = m.kind()
			f.Params = append(f.Params, a)
		}
		m.word(")")
		if m.Intn(2) == 0 {
			m.word(":")
			f.Ret = m.kind()
		}
		f.Body = m.block(size)
		t.Fns = append(t.Fns, f)
	}
	return t
}

func TestAgainstMadeTrees(t *testing.T) {
	for seed := range int64(3000) {
		m := newMaker(seed)
		want := m.tree(5)
		got, fault := Parse(m.text.String())
		if fault != (api.Fault{}) || !reflect.DeepEqual(got, want) {
			t.Fatalf("%s: %v %v, not %v", m.text.String(), got, fault, want)
		}
		again, fault := Parse(tree.Print(got))
		if fault != (api.Fault{}) || !tree.Same(got, again) {
			t.Fatalf("%s: %v", tree.Print(got), fault)
		}
	}
}

// The other reading goes by rules, of which all that fit are tried at once: the first word for which none is left is the fault. A lower-case word is a rule, all else a word.
const grammar = `
program =
program = program function
function = FN NAME ( ) result block
function = FN NAME ( params ) result block
params = param
params = params , param
param = NAME : type
result =
result = : type
type = INT
type = BOOL
type = [ INT ]
type = [ [ INT ] ]
block = { statements }
statements =
statements = statements statement
statement = VAR NAME = or ;
statement = NAME = or ;
statement = place = or ;
statement = call ;
statement = choice
statement = WHILE or block
statement = FOR NAME = or TO or step block
statement = BREAK ;
statement = CONTINUE ;
statement = RETURN ;
statement = RETURN or ;
statement = PRINT or ;
choice = IF or block
choice = IF or block ELSE block
choice = IF or block ELSE choice
step =
step = STEP SOME
step = STEP - SOME
place = NAME [ list ]
place = call [ list ]
place = place [ list ]
call = NAME ( list )
list =
list = exprs
exprs = or
exprs = exprs , or
or = and
or = or || and
and = compare
and = and && compare
compare = bits
compare = bits COMPARES bits
bits = mask
bits = bits BITS mask
mask = shift
mask = mask & shift
shift = sum
shift = shift SHIFTS sum
sum = product
sum = sum + product
sum = sum - product
product = ahead
product = product PRODUCTS ahead
ahead = indexed
ahead = - ahead
ahead = TURNS ahead
indexed = first
indexed = indexed [ list ]
first = NUMBER
first = TRUE
first = FALSE
first = INPUT
first = NAME
first = call
first = ( or )
first = NEW [ list ]
first = LEN ( list )
first = ROWS ( list )
first = COLS ( list )
`

func fits(s string, word api.Token) bool {
	among := map[string]string{"COMPARES": "== != < <= > >=", "BITS": "| ^", "SHIFTS": "<< >> >>>", "PRODUCTS": "* / %", "TURNS": "~ !"}
	switch s {
	case "NAME":
		return word.Kind == api.TokName
	case "NUMBER":
		return word.Kind == api.TokInt
	case "SOME":
		return word.Kind == api.TokInt && word.N != 0
	}
	if l, ok := among[s]; ok {
		return slices.Contains(strings.Fields(l), word.S)
	}
	return word.Kind >= api.TokWord && strings.ToLower(s) == word.S
}

// item is a rule of which so many words were read, from a place on.
type item struct{ rule, done, from int }

type reader struct {
	left  []string
	right [][]string
	sets  [][]item
	has   map[item]bool
}

func newReader() *reader {
	r := &reader{}
	for _, line := range strings.Split(strings.TrimSpace(grammar), "\n") {
		l := strings.Fields(line)
		r.left, r.right = append(r.left, l[0]), append(r.right, l[2:])
	}
	return r
}

// add keeps the last set without a second one of the same.
func (r *reader) add(x item) {
	if !r.has[x] {
		r.has[x] = true
		last := len(r.sets) - 1
		r.sets[last] = append(r.sets[last], x)
	}
}

func (r *reader) begin() {
	r.sets = append(r.sets, nil)
	r.has = map[item]bool{}
}

// close goes over the last set till nothing comes to it: rules that are empty may be done while others that wait for them still come.
func (r *reader) close() {
	at := len(r.sets) - 1
	for before := -1; before != len(r.sets[at]); {
		before = len(r.sets[at])
		for i := 0; i < len(r.sets[at]); i++ {
			x := r.sets[at][i]
			if x.done == len(r.right[x.rule]) {
				for _, y := range r.sets[x.from] {
					if y.done < len(r.right[y.rule]) && r.right[y.rule][y.done] == r.left[x.rule] {
						r.add(item{y.rule, y.done + 1, y.from})
					}
				}
				continue
			}
			for rule, s := range r.left {
				if s == r.right[x.rule][x.done] {
					r.add(item{rule, 0, at})
				}
			}
		}
	}
}

// fault is which word may not stand there; -1: all may.
func (r *reader) fault(words []api.Token) int {
	r.sets = nil
	r.begin()
	r.add(item{0, 0, 0})
	r.add(item{1, 0, 0})
	r.close()
	for i, word := range words {
		if word.Kind == api.TokEnd {
			if slices.ContainsFunc(r.sets[i], func(x item) bool {
				return r.left[x.rule] == "program" && x.from == 0 && x.done == len(r.right[x.rule])
			}) {
				return -1
			}
			return i
		}
		r.begin()
		for _, x := range r.sets[i] {
			if x.done < len(r.right[x.rule]) && fits(r.right[x.rule][x.done], word) {
				r.add(item{x.rule, x.done + 1, x.from})
			}
		}
		if len(r.sets[i+1]) == 0 {
			return i
		}
		r.close()
	}
	return -1
}

// amiss is the first list, by where it ends, that has another number of expressions: where that is told; -1: none has.
func amiss(words []api.Token) int {
	type list struct{ at, least, most, many int }
	var open []list
	for i, word := range words {
		ahead := api.Token{}
		if i > 0 {
			ahead = words[i-1]
		}
		if n := len(open); n > 0 && open[n-1].many == 0 && word.S != "]" && word.S != ")" {
			open[n-1].many = 1
		}
		switch {
		case word.S == "[" && ahead.S == "new":
			open = append(open, list{ahead.At, 1, 2, 0})
		case word.S == "[" && (ahead.S == ":" || ahead.S == "["):
			open = append(open, list{word.At, 0, 99, 0})
		case word.S == "[":
			open = append(open, list{word.At, 1, 2, 0})
		case word.S == "(" && (ahead.S == "len" || ahead.S == "rows" || ahead.S == "cols"):
			open = append(open, list{ahead.At, 1, 1, 0})
		case word.S == "(":
			open = append(open, list{word.At, 0, 99, 0})
		case word.S == "," && len(open) > 0:
			open[len(open)-1].many++
		case (word.S == "]" || word.S == ")") && len(open) > 0:
			x := open[len(open)-1]
			open = open[:len(open)-1]
			if x.many < x.least || x.many > x.most {
				return x.at
			}
		}
	}
	return -1
}

// byRules is the fault that the other reading tells.
func (r *reader) byRules(words []api.Token) api.Fault {
	bad := r.fault(words)
	read := words
	if bad >= 0 {
		read = words[:bad]
	}
	if at := amiss(read); at >= 0 {
		return api.Fault{Kind: api.FaultSyntax, At: at}
	}
	if bad >= 0 {
		return api.Fault{Kind: api.FaultSyntax, At: words[bad].At}
	}
	return api.Fault{}
}

// changed is a text of which a word was left out, doubled, put in, or exchanged.
func changed(m *maker, s string) string {
	words, _ := lex.Lex(s)
	l := make([]string, 0, len(words))
	for _, word := range words[:len(words)-1] {
		l = append(l, word.S)
	}
	all := strings.Fields("fn var if else while for to step break continue return print new len rows cols input true false int bool >>> << < == && || ( ) { } [ ] , ; : = + - * & | ! ~ a b 0 7 fn f ( ) { } ( a ) [ a ] [ a , b ] [ ] len ( ) , , ;")
	for range 1 + m.Intn(2) {
		at := m.Intn(len(l))
		switch m.Intn(5) {
		case 0:
			l = slices.Delete(l, at, at+1)
		case 1:
			l = slices.Insert(l, at, l[at])
		case 2:
			l = slices.Insert(l, at, all[m.Intn(len(all))])
		case 3:
			l[at] = all[m.Intn(len(all))]
		case 4:
			other := m.Intn(len(l))
			l[at], l[other] = l[other], l[at]
		}
		if len(l) == 0 {
			break
		}
	}
	return strings.Join(l, " ")
}

func TestAgainstRules(t *testing.T) {
	r := newReader()
	var counts [2]int
	for seed := range int64(4000) {
		m := newMaker(seed)
		m.tree(3)
		s := m.text.String()
		if seed%8 != 0 {
			s = changed(m, s)
		}
		words, _ := lex.Lex(s)
		if len(words) > 150 {
			continue
		}
		want := r.byRules(words)
		if _, fault := Parse(s); fault != want {
			t.Fatalf("%s: %v, not %v", s, fault, want)
		}
		counts[min(want.Kind, 1)]++
	}
	if min(counts[0], counts[1]) < 300 {
		t.Error("too few texts of one kind", counts)
	}
}
