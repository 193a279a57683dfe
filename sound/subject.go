package sound

import (
	"slices"

	"distaff/api"
	"distaff/dom"
	"distaff/graph"
)

// none stands where there is no instruction, no block.
const none = -1

// subject is a function of which it is asked whether it may be, in the program around it.
type subject struct {
	p  api.Prog
	f  api.Func
	in []int // of each instruction the block in which it stands; none: in none
	at []int // of each instruction its place in that block
}

// shaped tells whether there are blocks, and all ends are of a kind, and as their kind is.
func (s *subject) shaped() bool {
	for _, k := range s.f.Blocks {
		if !s.goes(k.Term) || !s.asks(k.Term) {
			return false
		}
	}
	return len(s.f.Blocks) > 0
}

// goes tells whether an end goes to as many blocks as its kind does, each another one, and there, and not the first one.
func (s *subject) goes(t api.Term) bool {
	many := 0
	switch t.Kind {
	case api.TermJump:
		many = 1
	case api.TermBranch:
		many = 2
	case api.TermRet:
	default:
		return false
	}
	if len(t.To) != many || many == 2 && t.To[0] == t.To[1] {
		return false
	}
	for _, to := range t.To {
		if to < 1 || to >= len(s.f.Blocks) {
			return false
		}
	}
	return true
}

// asks tells whether an end has an Arg just if there is one to have.
func (s *subject) asks(t api.Term) bool {
	if s.hasArg(t) {
		return t.Arg >= 0 && t.Arg < len(s.f.Ins)
	}
	return t.Arg == none
}

// hasArg tells whether an end goes by a number, or hands one back.
func (s *subject) hasArg(t api.Term) bool {
	return t.Kind == api.TermBranch || t.Kind == api.TermRet && s.f.Ret != api.TypeVoid
}

// predsRight tells whether the Preds of each block are just the blocks that go to it.
func (s *subject) predsRight() bool {
	many := make([]int, len(s.f.Blocks))
	for _, k := range s.f.Blocks {
		for _, to := range k.Term.To {
			many[to]++
		}
	}
	// Of each block the last one that had it among its Preds.
	last := slices.Repeat([]int{none}, len(s.f.Blocks))
	for b, k := range s.f.Blocks {
		if len(k.Preds) != many[b] {
			return false
		}
		for _, from := range k.Preds {
			if from < 0 || from >= len(last) || last[from] == b || !slices.Contains(s.f.Blocks[from].Term.To, b) {
				return false
			}
			last[from] = b
		}
	}
	return true
}

// listed tells whether each instruction stands at one place, and those of OpNone at none; it notes where.
func (s *subject) listed() bool {
	s.in = slices.Repeat([]int{none}, len(s.f.Ins))
	s.at = make([]int, len(s.f.Ins))
	for b, k := range s.f.Blocks {
		for at, id := range k.List {
			if id < 0 || id >= len(s.in) || s.in[id] != none {
				return false
			}
			s.in[id], s.at[id] = b, at
		}
	}
	for id, x := range s.f.Ins {
		if (x.Op == api.OpNone) != (s.in[id] == none) {
			return false
		}
	}
	return true
}

// reached tells whether all blocks are.
func (s *subject) reached() bool {
	return len(graph.Order(s.f)) == len(s.f.Blocks)
}

// placed tells whether all instructions do something that there is, and those of OpParam and OpPhi stand where they may.
func (s *subject) placed() bool {
	for b, k := range s.f.Blocks {
		begun := true
		for _, id := range k.List {
			x := s.f.Ins[id]
			begun = begun && x.Op == api.OpPhi
			switch {
			case x.Op < api.OpConst || x.Op > api.OpCall:
				return false
			case x.Op == api.OpParam && b != 0:
				return false
			case x.Op == api.OpPhi && (!begun || len(x.Args) == 0 || len(x.Args) != len(k.Preds)):
				return false
			}
		}
	}
	return true
}

// stands tells whether all that is used stands over where it is used.
func (s *subject) stands() bool {
	over := dom.New(s.f)
	for b, k := range s.f.Blocks {
		for _, id := range k.List {
			if !s.uses(over, id) {
				return false
			}
		}
		if s.hasArg(k.Term) && !over.Over(s.in[k.Term.Arg], b) {
			return false
		}
	}
	return true
}

// uses tells whether what an instruction uses stands over it; what an OpPhi uses, over the block by which it comes.
func (s *subject) uses(over *dom.Tree, id int) bool {
	x, b := s.f.Ins[id], s.in[id]
	for i, a := range x.Args {
		switch {
		case x.Op == api.OpPhi:
			if !over.Over(s.in[a], s.f.Blocks[b].Preds[i]) {
				return false
			}
		case s.in[a] == b:
			if s.at[a] >= s.at[id] {
				return false
			}
		case !over.Over(s.in[a], b):
			return false
		}
	}
	return true
}
