package ir

import (
	"slices"

	"distaff/api"
)

// Edit is a function that is changed. It keeps nothing beside the function: who fills in what an OpPhi lacks does so by F.
type Edit struct {
	f api.Func
}

// New is a function that can be changed.
func New(f api.Func) *Edit {
	return &Edit{f: Clone(f)}
}

// F is the function as it is, at any time; the lists that stand in it now stay as they are when something goes from them.
func (e *Edit) F() *api.Func {
	if e == nil {
		return nil
	}
	return &e.f
}

// block is a block, nil if it is not there.
func (e *Edit) block(b int) *api.Block {
	if e == nil || b < 0 || b >= len(e.f.Blocks) {
		return nil
	}
	return &e.f.Blocks[b]
}

// Insert puts an instruction at a place of a block: its number; -1: there is no such place.
func (e *Edit) Insert(b, at int, x api.Ins) int {
	k := e.block(b)
	if k == nil || at < 0 || at > len(k.List) {
		return none
	}
	id := len(e.f.Ins)
	e.f.Ins = append(e.f.Ins, cloneIns(x))
	if at == len(k.List) {
		// Nothing moves: blocks that grow by their ends are not copied each time.
		k.List = append(k.List, id)
	} else {
		k.List = slices.Concat(k.List[:at], []int{id}, k.List[at:])
	}
	return id
}

// Add puts an instruction at the end of a block.
func (e *Edit) Add(b int, x api.Ins) int {
	k := e.block(b)
	if k == nil {
		return none
	}
	return e.Insert(b, len(k.List), x)
}

// Phis is how many instructions of a block are of OpPhi.
func (e *Edit) Phis(b int) int {
	k := e.block(b)
	if k == nil {
		return 0
	}
	n := 0
	for _, id := range k.List {
		if isPhi(&e.f, id) {
			n++
		}
	}
	return n
}

// Drop takes an instruction away.
func (e *Edit) Drop(id int) {
	if e == nil || !has(&e.f, id) {
		return
	}
	e.f.Ins[id] = api.Ins{}
	for b := range e.f.Blocks {
		k := &e.f.Blocks[b]
		if slices.Contains(k.List, id) {
			k.List = without(k.List, func(_, x int) bool { return x == id })
		}
	}
}

// Replace lets another instruction be used in the place of one.
func (e *Edit) Replace(old, by int) {
	if e == nil {
		return
	}
	for _, x := range e.f.Ins {
		swap(x.Args, old, by)
	}
	for b := range e.f.Blocks {
		if t := &e.f.Blocks[b].Term; hasArg(*t) && t.Arg == old {
			t.Arg = by
		}
	}
}

// hasArg tells whether an end has an Arg: of others it is no instruction, whatever stands there.
func hasArg(t api.Term) bool {
	return t.Kind == api.TermBranch || t.Kind == api.TermRet && t.Arg != none
}

// swap puts a number in the place of each one that is another one.
func swap(list []int, old, by int) {
	for i, x := range list {
		if x == old {
			list[i] = by
		}
	}
}

// Block makes a block, which nobody comes to: its number.
func (e *Edit) Block() int {
	if e == nil {
		return none
	}
	e.f.Blocks = append(e.f.Blocks, api.Block{})
	return len(e.f.Blocks) - 1
}

// Cut lets a block end with nothing: those it went to are not come to from it any more.
func (e *Edit) Cut(b int) {
	k := e.block(b)
	if k == nil {
		return
	}
	for _, to := range k.Term.To {
		e.lose(to, b)
	}
	k.Term = api.Term{}
}

// lose takes a block away from those that another one is come to from, and its Arg from each OpPhi there.
func (e *Edit) lose(b, pred int) {
	k := e.block(b)
	if k == nil || !slices.Contains(k.Preds, pred) {
		return
	}
	old := k.Preds
	gone := func(at, _ int) bool { return at < len(old) && old[at] == pred }
	k.Preds = without(old, gone)
	for _, id := range e.phis(*k) {
		e.f.Ins[id].Args = without(e.f.Ins[id].Args, gone)
	}
}

// phis is which instructions of OpPhi a block has, each once: one that stands twice must not lose twice.
func (e *Edit) phis(k api.Block) []int {
	list := without(k.List, func(_, id int) bool { return !isPhi(&e.f, id) })
	slices.Sort(list)
	return slices.Compact(list)
}

// gain lets a block be come to from another one, last.
func (e *Edit) gain(b, pred int) {
	if k := e.block(b); k != nil {
		k.Preds = append(k.Preds, pred)
	}
}

// End lets a block, that ends with nothing, end so; those it goes to are come to from it, last: their instructions of OpPhi lack one number then.
func (e *Edit) End(b int, t api.Term) {
	k := e.block(b)
	if k == nil || k.Term.Kind != api.TermNone {
		return
	}
	k.Term = cloneTerm(t)
	for at, to := range t.To {
		// A block that is gone to by both ways is come to from one block.
		if !slices.Contains(t.To[:at], to) {
			e.gain(to, b)
		}
	}
}

// Jump is an end that goes to a block.
func Jump(to int) api.Term {
	return api.Term{Kind: api.TermJump, Arg: none, To: []int{to}}
}

// Branch is an end that goes to one of two blocks.
func Branch(c, yes, no int) api.Term {
	return api.Term{Kind: api.TermBranch, Arg: c, To: []int{yes, no}}
}

// Ret is an end that ends the function.
func Ret(v int) api.Term {
	return api.Term{Kind: api.TermRet, Arg: v}
}

// Turn lets a block go to another one in the place of one; this one's instructions of OpPhi lose a number, the other one's lack one then.
func (e *Edit) Turn(b, old, to int) {
	k := e.block(b)
	if k == nil || e.block(to) == nil || !slices.Contains(k.Term.To, old) {
		return
	}
	swap(k.Term.To, old, to)
	e.lose(old, b)
	e.gain(to, b)
}

// Split puts a block between two: its number; -1: the one does not go to the other.
func (e *Edit) Split(b, to int) int {
	k := e.block(b)
	if k == nil || e.block(to) == nil || !slices.Contains(k.Term.To, to) {
		return none
	}
	swap(k.Term.To, to, len(e.f.Blocks))
	n := e.Block()
	e.f.Blocks[n].Preds = []int{b}
	e.f.Blocks[n].Term = Jump(to)
	// At the same place the instructions of OpPhi keep their numbers.
	swap(e.f.Blocks[to].Preds, b, n)
	return n
}

// Done is the function, without what is not reached or is nothing.
func (e *Edit) Done() api.Func {
	if e == nil {
		return api.Func{}
	}
	return Compact(e.f)
}
