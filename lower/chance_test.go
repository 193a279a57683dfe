package lower

import (
	"math/rand"
	"strconv"
	"strings"
	"testing"

	"distaff/api"
)

// maker makes texts of programs by chance. Their numbers are small, and their indexes mostly there, so that runs go on for a while.
type maker struct {
	*rand.Rand
	vars  [][]known // of each block around
	made  int
	loops int
	ret   int
}

// known is a variable that may be named.
type known struct {
	name  string
	kind  int
	fixed bool
}

// callee is a function that each program has.
type callee struct {
	name string
	args []known
	ret  int
}

var callees = []callee{
	{"main", nil, api.TypeInt},
	{"f", []known{{"p", api.TypeInt, false}, {"q", api.TypeBool, false}}, api.TypeInt},
	{"g", []known{{"p", api.TypeArr, false}, {"q", api.TypeMat, false}}, api.TypeArr},
	{"h", []known{{"p", api.TypeMat, false}, {"q", api.TypeInt, false}}, api.TypeMat},
	{"b", []known{{"p", api.TypeInt, false}}, api.TypeBool},
	{"v", []known{{"p", api.TypeArr, false}}, api.TypeVoid},
}

var words = []string{"", "int", "bool", "[int]", "[[int]]"}

func (m *maker) pick(l ...string) string { return l[m.Intn(len(l))] }

// some is a variable of a type, if there is one.
func (m *maker) some(kind int, set bool) (string, bool) {
	var l []string
	for _, block := range m.vars {
		for _, k := range block {
			if k.kind == kind && !(set && k.fixed) {
				l = append(l, k.name)
			}
		}
	}
	if len(l) == 0 {
		return "", false
	}
	return m.pick(l...), true
}

func (m *maker) expr(kind, size int) string {
	if name, ok := m.some(kind, false); ok && m.Intn(5) < 2 {
		return name
	}
	if size > 0 && m.Intn(9) == 0 {
		if s, ok := m.call(kind, size-1); ok {
			return s
		}
	}
	switch kind {
	case api.TypeBool:
		return m.truth(size - 1)
	case api.TypeArr:
		return "new [" + m.small(size-1) + "]"
	case api.TypeMat:
		return "new [" + m.small(size-1) + ", " + m.small(size-1) + "]"
	}
	return m.number(size - 1)
}

// small is a number that is mostly a good length.
func (m *maker) small(size int) string {
	switch m.Intn(20) {
	case 0:
		return m.pick("70000", "-1", "0", "257")
	case 1:
		return m.expr(api.TypeInt, size)
	}
	return m.pick("4", "5", "6", "4", "5", "3")
}

// index is a number that is mostly a place of rows that small made.
func (m *maker) index(size int) string {
	if m.Intn(8) == 0 {
		return m.expr(api.TypeInt, size)
	}
	return "((" + m.expr(api.TypeInt, size) + ") & 3)"
}

func (m *maker) number(size int) string {
	if size < 0 || m.Intn(3) == 0 {
		return m.pick("0", "7", "1", "2", "3", "5", "8", "63", "9223372036854775807", "18446744073709551615", "100")
	}
	switch m.Intn(12) {
	case 0:
		return m.pick("-", "~") + m.expr(api.TypeInt, size)
	case 1:
		return "len(" + m.expr(api.TypeArr, size) + ")"
	case 2:
		return m.pick("rows(", "cols(") + m.expr(api.TypeMat, size) + ")"
	case 3, 4:
		return m.cell(size)
	case 5:
		return "input"
	}
	op := m.pick("+", "-", "*", "+", "-", "*", "&", "|", "^", "<<", ">>", ">>>", "/", "%")
	return "(" + m.expr(api.TypeInt, size) + " " + op + " " + m.expr(api.TypeInt, size) + ")"
}

func (m *maker) cell(size int) string {
	if m.Intn(2) == 0 {
		return m.expr(api.TypeArr, size) + "[" + m.index(size) + "]"
	}
	return m.expr(api.TypeMat, size) + "[" + m.index(size) + ", " + m.index(size) + "]"
}

func (m *maker) truth(size int) string {
	if size < 0 {
		return m.pick("true", "false")
	}
	switch m.Intn(5) {
	case 0:
		return "!" + m.expr(api.TypeBool, size)
	case 1:
		return "(" + m.expr(api.TypeBool, size) + m.pick(" && ", " || ") + m.expr(api.TypeBool, size) + ")"
	case 2:
		return "(" + m.expr(api.TypeBool, size) + m.pick(" == ", " != ") + m.expr(api.TypeBool, size) + ")"
	}
	return "(" + m.expr(api.TypeInt, size) + m.pick(" == ", " != ", " < ", " <= ", " > ", " >= ") + m.expr(api.TypeInt, size) + ")"
}

func (m *maker) call(kind, size int) (string, bool) {
	for _, i := range m.Perm(len(callees)) {
		if c := callees[i]; c.ret == kind {
			var l []string
			for _, a := range c.args {
				l = append(l, m.expr(a.kind, size))
			}
			return c.name + "(" + strings.Join(l, ", ") + ")", true
		}
	}
	return "", false
}

// add makes a variable of a name that is no other one's.
func (m *maker) add(kind int, fixed bool) string {
	m.made++
	name := "x" + strconv.Itoa(m.made)
	last := len(m.vars) - 1
	m.vars[last] = append(m.vars[last], known{name, kind, fixed})
	return name
}

func (m *maker) block(size int) string {
	m.vars = append(m.vars, nil)
	out := "{ " + m.stmts(size) + "} "
	m.vars = m.vars[:len(m.vars)-1]
	return out
}

func (m *maker) stmts(size int) string {
	out := ""
	for range 1 + m.Intn(6) {
		out += m.stmt(size)
	}
	return out
}

func (m *maker) stmt(size int) string {
	kind := 1 + m.Intn(4)
	switch n := m.Intn(22); {
	case n < 4:
		e := m.expr(kind, 2)
		return "var " + m.add(kind, false) + " = " + e + "; "
	case n < 7:
		if name, ok := m.some(kind, true); ok {
			return name + " = " + m.expr(kind, 2) + "; "
		}
	case n < 9:
		return m.put()
	case n < 12:
		return "print " + m.expr(1+m.Intn(2), 3) + "; "
	case n < 13:
		s, _ := m.call(m.Intn(5), 1)
		return s + "; "
	case n < 14 && m.loops > 0:
		return m.pick("break; ", "continue; ")
	case n == 14 && m.Intn(4) == 0:
		return m.back()
	case n > 14 && size > 0:
		return m.around(size - 1)
	}
	return "print " + strconv.Itoa(m.Intn(100)) + "; "
}

// put begins with a name, or a call: nothing else may stand ahead.
func (m *maker) put() string {
	to, ok := m.some(api.TypeArr, false)
	if !ok || m.Intn(4) == 0 {
		to, _ = m.call(api.TypeArr, 1)
	}
	at := "[" + m.index(1) + "]"
	if m.Intn(2) == 0 {
		to, _ = m.call(api.TypeMat, 1)
		if name, ok := m.some(api.TypeMat, false); ok && m.Intn(4) > 0 {
			to = name
		}
		at = "[" + m.index(1) + ", " + m.index(1) + "]"
	}
	return to + at + " = " + m.expr(api.TypeInt, 2) + "; "
}

func (m *maker) back() string {
	if m.ret == api.TypeVoid {
		return "return; "
	}
	return "return " + m.expr(m.ret, 2) + "; "
}

func (m *maker) around(size int) string {
	switch m.Intn(5) {
	case 0:
		return "if " + m.expr(api.TypeBool, 2) + " " + m.block(size)
	case 1:
		return "if " + m.expr(api.TypeBool, 2) + " " + m.block(size) + "else " + m.block(size)
	case 2:
		c := m.expr(api.TypeBool, 2)
		m.loops++
		defer func() { m.loops-- }()
		return "while " + c + " " + m.block(size)
	}
	from, to, step := m.pick("0", "1", "-2", m.number(1)), m.pick("3", "4", "2", m.number(1)), ""
	if m.Intn(3) == 0 {
		from, to, step = to, from, m.pick("step -1 ", "step -3 ", "step 2 ")
	}
	m.vars = append(m.vars, nil)
	m.loops++
	defer func() {
		m.loops--
		m.vars = m.vars[:len(m.vars)-1]
	}()
	name := m.add(api.TypeInt, true)
	return "for " + name + " = " + from + " to " + to + " " + step + m.block(size)
}

func (m *maker) program() string {
	out := ""
	for _, i := range m.Perm(len(callees)) {
		c := callees[i]
		var args []string
		for _, a := range c.args {
			args = append(args, a.name+": "+words[a.kind])
		}
		m.vars, m.ret = [][]known{c.args, nil}, c.ret
		out += "fn " + c.name + "(" + strings.Join(args, ", ") + ")"
		if c.ret != api.TypeVoid {
			out += ": " + words[c.ret]
		}
		out += " { " + m.stmts(3) + m.back() + "}\n"
	}
	return out
}

// flow makes texts of one function by chance, whose ways cross each other: few variables, that are set and printed everywhere.
type flow struct {
	*rand.Rand
	vars  []string // that may be named
	made  int
	loops int
}

func (m *flow) pick(l ...string) string { return l[m.Intn(len(l))] }

func (m *flow) truth(size int) string {
	switch m.Intn(6) {
	case 0:
		return m.pick("true", "false")
	case 1:
		if size > 0 {
			return "(" + m.truth(size-1) + m.pick(" && ", " || ") + m.truth(size-1) + ")"
		}
	}
	return m.pick(m.vars...) + m.pick(" & 1 == 0", " < 20", " > 7", " & 2 == 0", " % 3 == 1", " != "+m.pick(m.vars...))
}

func (m *flow) number() string {
	if m.Intn(3) == 0 {
		return m.pick(m.vars...)
	}
	return m.pick(m.vars...) + m.pick(" + ", " - ", " ^ ", " * ") + m.pick(append([]string{"1", "2", "5"}, m.vars...)...)
}

func (m *flow) block(size int) string {
	had := len(m.vars)
	out := "{ "
	for range m.Intn(5) {
		out += m.stmt(size)
	}
	m.vars = m.vars[:had]
	return out + "} "
}

func (m *flow) stmt(size int) string {
	switch n := m.Intn(16); {
	case n < 5:
		return m.vars[m.Intn(5)] + " = " + m.number() + "; "
	case n == 5:
		e := m.number()
		m.made++
		m.vars = append(m.vars, "y"+strconv.Itoa(m.made))
		return "var " + m.vars[len(m.vars)-1] + " = " + e + "; "
	case n == 6 && m.loops > 0:
		return m.pick("break; ", "continue; ", "if "+m.truth(1)+" { break; } ", "if "+m.truth(1)+" { continue; } ")
	case n == 7 && m.Intn(5) == 0:
		return "return " + m.number() + "; "
	case n > 8 && size > 0:
		return m.around(size - 1)
	}
	return "print " + m.pick(m.vars...) + "; "
}

func (m *flow) around(size int) string {
	switch m.Intn(6) {
	case 0:
		return "if " + m.truth(2) + " " + m.block(size)
	case 1:
		return "if " + m.truth(2) + " " + m.block(size) + "else " + m.block(size)
	case 2:
		return "if " + m.truth(2) + " " + m.block(size) + "else if " + m.truth(2) + " " + m.block(size) + "else " + m.block(size)
	case 3:
		m.loops++
		defer func() { m.loops-- }()
		return "while " + m.truth(2) + " " + m.block(size)
	}
	from, to := m.pick("0", "1", m.number()), m.pick("3", "4", m.number())
	m.made++
	had := len(m.vars)
	name := "y" + strconv.Itoa(m.made)
	m.vars = append(m.vars, name)
	m.loops++
	defer func() { m.loops, m.vars = m.loops-1, m.vars[:had] }()
	return "for " + name + " = " + from + " to " + to + m.pick(" ", " step -2 ", " step 3 ") + m.block(size)
}

func (m *flow) program() string {
	m.vars = []string{"a", "b", "c", "d", "e"}
	out := "fn main(): int { var a = 0; var b = 1; var c = 2; var d = 3; var e = 4; "
	for range 6 {
		out += m.stmt(4)
	}
	return out + "return a + b * c - d ^ e; }"
}

// Promise 13.1: programs that were made by chance do the same as their trees, and have just the instructions that the second reading tells.
func TestProgramsByChance(t *testing.T) {
	ends := map[[2]int64]int{}
	for seed := range int64(1000) {
		r := rand.New(rand.NewSource(seed))
		text := (&flow{Rand: r}).program()
		if seed%2 == 0 {
			text = (&maker{Rand: r}).program()
		}
		var in []int64
		for range r.Intn(40) {
			in = append(in, int64(r.Intn(7)-1))
		}
		got := both(t, text, 4000, in...)
		end := [2]int64{int64(got.End), got.Value}
		if got.End == api.EndHalt {
			end[1] = 0
		}
		ends[end]++
		p := checked(t, text)
		for i, f := range lowered(t, text).Funcs {
			counted(t, p.Fns[i], f)
		}
	}
	for _, end := range [][2]int64{{api.EndFuel, 0}, {api.EndHalt, 0}, {api.EndTrap, api.TrapIndex}, {api.EndTrap, api.TrapDivide}, {api.EndTrap, api.TrapLength}, {api.EndTrap, api.TrapInput}} {
		if ends[end] < 5 {
			t.Errorf("only %d runs end by %v", ends[end], end)
		}
	}
}
