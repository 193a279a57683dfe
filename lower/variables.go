package lower

import (
	"slices"
	"sort"

	"distaff/api"
)

// place is a variable in a block.
type place struct {
	block, variable int
}

// variables is what the variables of a function are. Blocks are filled one behind the other, each till its end: what a variable is at the end of a block, it came to be in the last of its steps that was entered till then.
type variables struct {
	f     *api.Func
	is    map[place]int // which instruction a variable is at the end of one of its steps; if none is told, it comes together there, and is an OpPhi as soon as somebody asks
	steps [][]int       // of each variable the blocks in which it is set, or comes together, as they were entered
	types []int         // of each variable
	turn  []int         // of each block how many were entered ahead of it
	last  int           // the last turn
	phis  []phi
}

// phi is an instruction in whose place a variable comes together.
type phi struct {
	place
	id int
}

func newVariables(f *api.Func, many int) variables {
	return variables{f: f, is: map[place]int{}, steps: make([][]int, many), types: make([]int, many)}
}

// create makes a variable that the program's text does not have.
func (v *variables) create() int {
	v.steps = append(v.steps, nil)
	v.types = append(v.types, api.TypeVoid)
	return len(v.steps) - 1
}

// enter is told of each block but the first one when it is to be filled, with what is set on ways to it behind the block over it.
func (v *variables) enter(b int, set ...[]int) {
	v.last++
	v.turn[b] = v.last
	for _, list := range set {
		for _, n := range list {
			v.step(b, n)
		}
	}
}

// step notes that a variable comes to be something in a block, the last one that was entered.
func (v *variables) step(b, n int) {
	s := v.steps[n]
	if len(s) == 0 || s[len(s)-1] != b {
		v.steps[n] = append(s, b)
	}
}

// set lets a variable be an instruction from here on.
func (v *variables) set(b, n, id int) {
	v.step(b, n)
	v.is[place{b, n}] = id
	v.types[n] = v.f.Ins[id].Type
}

// get is which instruction a variable is here.
func (v *variables) get(n int) int {
	s := v.steps[n]
	return v.at(place{s[len(s)-1], n})
}

// behind is which instruction a variable is at the end of a block.
func (v *variables) behind(b, n int) int {
	s := v.steps[n]
	later := sort.Search(len(s), func(i int) bool { return v.turn[s[i]] > v.turn[b] })
	return v.at(place{s[later-1], n})
}

// at is which instruction a variable is at the end of one of its steps.
func (v *variables) at(p place) int {
	id, ok := v.is[p]
	if !ok {
		id = len(v.f.Ins)
		v.f.Ins = append(v.f.Ins, api.Ins{Op: api.OpPhi, Type: v.types[p.variable]})
		v.is[p] = id
		v.phis = append(v.phis, phi{p, id})
	}
	return id
}

// lay puts OpPhi into their blocks, when all blocks have their ends: those that are needed.
func (v *variables) lay() {
	v.fill()
	by := v.stand()
	heads := make([][]int, len(v.f.Blocks))
	for _, p := range v.phis {
		if by.of(p.id) == p.id {
			heads[p.block] = append(heads[p.block], p.id)
		}
	}
	for b := range v.f.Blocks {
		k := &v.f.Blocks[b]
		k.List = slices.Concat(heads[b], k.List)
		k.Term.Arg = by.of(k.Term.Arg)
	}
	for _, x := range v.f.Ins {
		for i, a := range x.Args {
			x.Args[i] = by.of(a)
		}
	}
}

// fill tells what comes together in each OpPhi, in those, too, that are made by asking for it.
func (v *variables) fill() {
	for i := 0; i < len(v.phis); i++ {
		p := v.phis[i]
		var args []int
		for _, b := range v.f.Blocks[p.block].Preds {
			args = append(args, v.behind(b, p.variable))
		}
		v.f.Ins[p.id].Args = args
	}
}

// stands tells of each instruction which other one stands for it, or itself.
type stands []int

func (s stands) of(id int) int {
	if id < 0 || id >= len(s) {
		return id
	}
	for s[id] != id {
		// The way is halved for who asks again: there may be many one behind the other.
		s[id] = s[s[id]]
		id = s[id]
	}
	return id
}

// only is the one instruction beside itself that an OpPhi is by all ways; none: there are several.
func (s stands) only(id int, args []int) int {
	one := none
	for _, a := range args {
		a = s.of(a)
		if a == id || a == one {
			continue
		}
		if one != none {
			return none
		}
		one = a
	}
	return one
}

// stand finds what stands for each OpPhi that is one instruction by all ways. By that others may become such: of loops within loops the inner ones do first, else what stands ahead, so it goes to and fro.
func (v *variables) stand() stands {
	by := make(stands, len(v.f.Ins))
	for id := range by {
		by[id] = id
	}
	left := slices.Clone(v.phis)
	for many := -1; many != len(left); slices.Reverse(left) {
		many = len(left)
		left = slices.DeleteFunc(left, func(p phi) bool {
			one := by.only(p.id, v.f.Ins[p.id].Args)
			if one == none {
				return false
			}
			by[p.id] = one
			return true
		})
	}
	return by
}
