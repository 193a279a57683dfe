package ir

import (
	"math/rand"
	"slices"
	"testing"

	"distaff/api"
)

// ways is a second reading of how blocks lead to one another: of each block the ways to it in their order, each with what each OpPhi is by it.
type ways [][]way

type way struct {
	from int
	is   map[int]int
}

// lose takes a block's way to another one away.
func (w ways) lose(b, from int) {
	w[b] = slices.DeleteFunc(w[b], func(x way) bool { return x.from == from })
}

// model is a function as it should be: where blocks go, how they are come to, and what stands in them.
type model struct {
	*rand.Rand
	to   [][]int
	in   ways
	list [][]int
	phis [][]int
	many int
}

// fill hands each OpPhi of a block, that is come to last by a new way, a number for it.
func (m *model) fill(e *Edit, b, from int) {
	is := map[int]int{}
	for _, id := range m.phis[b] {
		is[id] = m.Intn(m.many)
		x := &e.F().Ins[id]
		x.Args = append(x.Args, is[id])
	}
	m.in[b] = append(m.in[b], way{from, is})
}

func (m *model) block(t *testing.T, e *Edit) int {
	n := len(m.to)
	if got := e.Block(); got != n {
		t.Fatal(got, n)
	}
	m.to, m.in = append(m.to, nil), append(m.in, nil)
	m.list, m.phis = append(m.list, nil), append(m.phis, nil)
	return n
}

// end lets a block that ends with nothing go to some other ones.
func (m *model) end(e *Edit, b int) {
	to := m.Perm(len(m.to))[:m.Intn(min(2, len(m.to))+1)]
	switch len(to) {
	case 0:
		e.End(b, Ret(-1))
		return
	case 1:
		e.End(b, Jump(to[0]))
	case 2:
		e.End(b, Branch(0, to[0], to[1]))
	}
	m.to[b] = to
	for _, x := range to {
		m.fill(e, x, b)
	}
}

func (m *model) cut(e *Edit, b int) {
	e.Cut(b)
	for _, x := range m.to[b] {
		m.in.lose(x, b)
	}
	m.to[b] = nil
}

// phi puts an OpPhi ahead of all others of a block, or behind them.
func (m *model) phi(t *testing.T, e *Edit, b int) {
	at := m.Intn(2) * len(m.phis[b])
	x := api.Ins{Op: api.OpPhi}
	for _, w := range m.in[b] {
		w.is[m.many] = m.Intn(m.many + 1)
		x.Args = append(x.Args, w.is[m.many])
	}
	if id := e.Insert(b, at, x); id != m.many {
		t.Fatal(id, m.many)
	}
	m.list[b] = slices.Insert(m.list[b], at, m.many)
	m.phis[b] = slices.Insert(m.phis[b], at, m.many)
	m.many++
	if got := e.Phis(b); got != len(m.phis[b]) {
		t.Fatal(got, m.phis[b])
	}
}

func (m *model) add(t *testing.T, e *Edit, b int) {
	if id := e.Add(b, api.Ins{Op: api.OpInput}); id != m.many {
		t.Fatal(id, m.many)
	}
	m.list[b] = append(m.list[b], m.many)
	m.many++
}

func (m *model) drop(e *Edit, id int) {
	e.Drop(id)
	for b := range m.list {
		same := func(x int) bool { return x == id }
		m.list[b] = slices.DeleteFunc(m.list[b], same)
		m.phis[b] = slices.DeleteFunc(m.phis[b], same)
	}
}

func (m *model) replace(e *Edit, old, by int) {
	e.Replace(old, by)
	for _, l := range m.in {
		for _, w := range l {
			for id, x := range w.is {
				if x == old {
					w.is[id] = by
				}
			}
		}
	}
}

// turn asks of another block only if the one does not go to it yet.
func (m *model) turn(e *Edit, b int) {
	if len(m.to[b]) == 0 {
		return
	}
	which, to := m.Intn(len(m.to[b])), m.Intn(len(m.to))
	old := m.to[b][which]
	if to != old && slices.Contains(m.to[b], to) {
		return
	}
	e.Turn(b, old, to)
	m.to[b][which] = to
	m.in.lose(old, b)
	m.fill(e, to, b)
}

func (m *model) split(t *testing.T, e *Edit, b, to int) {
	n := -1
	if which := slices.Index(m.to[b], to); which >= 0 {
		n = len(m.to)
		m.to[b][which] = n
		m.to, m.list, m.phis = append(m.to, list(to)), append(m.list, nil), append(m.phis, nil)
		m.in = append(m.in, []way{{b, map[int]int{}}})
		for i := range m.in[to] {
			if m.in[to][i].from == b {
				m.in[to][i].from = n
			}
		}
	}
	if got := e.Split(b, to); got != n {
		t.Fatal(got, n)
	}
}

// holds asks whether a function is as it should be.
func (m *model) holds(f *api.Func) bool {
	if len(f.Ins) != m.many || len(f.Blocks) != len(m.to) {
		return false
	}
	for b, k := range f.Blocks {
		var preds []int
		for _, w := range m.in[b] {
			preds = append(preds, w.from)
		}
		if !slices.Equal(k.Preds, preds) || !slices.Equal(k.List, m.list[b]) || !slices.Equal(k.Term.To, m.to[b]) {
			return false
		}
		for _, id := range m.phis[b] {
			var args []int
			for _, w := range m.in[b] {
				args = append(args, w.is[id])
			}
			if f.Ins[id].Op != api.OpPhi || !slices.Equal(f.Ins[id].Args, args) {
				return false
			}
		}
	}
	return true
}

// Promise 7.2: whatever is done one behind the other, blocks are come to as the second reading says, and each OpPhi is by each way what it was.
func TestEditsByChance(t *testing.T) {
	for seed := range int64(400) {
		m, e := &model{Rand: rand.New(rand.NewSource(seed)), many: 0}, New(api.Func{})
		m.add(t, e, m.block(t, e))
		for step := range 120 {
			b := m.Intn(len(m.to))
			switch m.Intn(12) {
			case 0:
				m.block(t, e)
			case 1, 2, 3:
				if e.F().Blocks[b].Term.Kind == api.TermNone {
					m.end(e, b)
				}
			case 4:
				m.cut(e, b)
			case 5, 6:
				m.phi(t, e, b)
			case 7:
				m.add(t, e, b)
			case 8:
				m.turn(e, b)
			case 9:
				m.split(t, e, b, m.Intn(len(m.to)))
			case 10:
				m.drop(e, m.Intn(m.many))
			case 11:
				m.replace(e, m.Intn(m.many), m.Intn(m.many))
			}
			if !m.holds(e.F()) {
				t.Fatalf("seed %d, step %d: %s\n%+v", seed, step, Print(*e.F()), m)
			}
		}
	}
}
