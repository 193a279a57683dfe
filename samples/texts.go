package samples

import (
	"strconv"
)

// Text is the text of a program made by chance, of numbers that are mostly known. It has no faults.
func Text(d Dice) string {
	return (&teller{Dice: d}).program()
}

// teller makes texts by chance, of numbers that are mostly known.
type teller struct {
	Dice
	vars  []string
	loops int
}

func (m *teller) pick(l ...string) string { return l[m.Intn(len(l))] }

func (m *teller) number(size int) string {
	switch n := m.Intn(12); {
	case size == 0 || n < 3:
		return m.pick("0", "1", "2", "3", "7", "64", "9223372036854775807")
	case n < 6:
		return m.pick(m.vars...)
	case n == 6:
		return m.pick("-", "~") + m.number(size-1)
	case n == 7:
		return "r[" + m.number(size-1) + " & 3]"
	case n == 8:
		return "f(" + m.number(size-1) + ", " + m.truth(size-1) + ")"
	case n == 9 && m.Intn(4) == 0:
		return "input"
	}
	if m.Intn(6) == 0 {
		return "(" + m.number(size-1) + m.pick(" / ", " % ") + "(1 | " + m.number(size-1) + "))"
	}
	return "(" + m.number(size-1) + m.pick(" + ", " - ", " * ", " + ", " - ", " & ", " | ", " ^ ", " << ", " >> ", " >>> ", " + ", " - ", " / ", " % ") + m.number(size-1) + ")"
}

func (m *teller) truth(size int) string {
	switch n := m.Intn(8); {
	case size == 0 || n == 0:
		return m.pick("true", "false")
	case n == 1:
		return "!" + m.truth(size-1)
	case n < 4:
		return "(" + m.truth(size-1) + m.pick(" && ", " || ", " == ", " != ") + m.truth(size-1) + ")"
	}
	return "(" + m.number(size-1) + m.pick(" == ", " != ", " < ", " <= ", " > ", " >= ") + m.number(size-1) + ")"
}

func (m *teller) block(size int) string {
	out := "{ "
	for range 1 + m.Intn(4) {
		out += m.stmt(size)
	}
	return out + "} "
}

func (m *teller) stmt(size int) string {
	switch n := m.Intn(14); {
	case n < 4:
		return m.vars[m.Intn(4)] + " = " + m.number(3) + "; "
	case n < 6:
		return "print " + m.number(3) + "; "
	case n == 6:
		return "r[" + m.pick("0", "1", "3", m.number(2)+" & 3") + "] = " + m.number(2) + "; "
	case n == 7 && m.loops > 0:
		return "if " + m.truth(2) + m.pick(" { break; } ", " { continue; } ")
	case n < 10 && size > 0:
		return "if " + m.truth(3) + " " + m.block(size-1) + "else " + m.block(size-1)
	case n < 13 && size > 0:
		m.loops++
		defer func() { m.loops-- }()
		if n == 10 {
			return "while " + m.truth(3) + " " + m.block(size-1)
		}
		had := len(m.vars)
		defer func() { m.vars = m.vars[:had] }()
		name, bounds := "i"+strconv.Itoa(had), m.pick("0", "1", m.number(1))+" to "+m.pick("2", "4", m.number(1))
		m.vars = append(m.vars, name)
		return "for " + name + " = " + bounds + m.pick(" ", " step 2 ") + m.block(size-1)
	}
	return "print " + m.pick(m.vars...) + "; "
}

func (m *teller) program() string {
	m.vars = []string{"a", "b", "c", "d"}
	out := "fn main(): int { var a = 0; var b = 1; var c = 5; var d = -1; var r = new [4]; "
	for range 7 {
		out += m.stmt(3)
	}
	m.vars = []string{"x"}
	return out + "return a + b * c - d; } fn f(x: int, y: bool): int { var r = new [2 + 2]; if y || " + m.pick("true", "false") + " { return x" + m.pick(" + 1", " / (1 - 1)", " * (2 + 3)") + "; } r[1] = x; return r[2 - 1]; }"
}
