package ir

import (
	"slices"

	"distaff/api"
)

// Compact is a function without the blocks that are not reached, and without instructions that stand in none; both are numbered anew, in their order.
func Compact(f api.Func) api.Func {
	c := compaction{f: &f, blocks: blockNumbers(f.Blocks)}
	c.ins = c.insNumbers()
	c.out = api.Func{Name: f.Name, Params: slices.Clone(f.Params), Ret: f.Ret}
	for b, n := range c.blocks {
		if n != none {
			c.block(f.Blocks[b])
		}
	}
	return c.out
}

// compaction is a function, its new numbers (none: it goes), and what has been laid down of the new one.
type compaction struct {
	f      *api.Func
	blocks []int
	ins    []int
	out    api.Func
}

// blockNumbers is the new number of each block.
func blockNumbers(blocks []api.Block) []int {
	reached := reach(blocks)
	numbers := make([]int, len(blocks))
	next := 0
	for b := range blocks {
		numbers[b] = none
		if reached[b] {
			numbers[b] = next
			next++
		}
	}
	return numbers
}

// reach tells of each block whether it is come to from the first one.
func reach(blocks []api.Block) []bool {
	reached := make([]bool, len(blocks))
	var left []int
	enter := func(b int) {
		if b >= 0 && b < len(blocks) && !reached[b] {
			reached[b] = true
			left = append(left, b)
		}
	}
	enter(0)
	for len(left) > 0 {
		b := left[len(left)-1]
		left = left[:len(left)-1]
		for _, to := range blocks[b].Term.To {
			enter(to)
		}
	}
	return reached
}

// insNumbers is the new number of each instruction; of one that stands twice the last one.
func (c *compaction) insNumbers() []int {
	numbers := make([]int, len(c.f.Ins))
	for id := range numbers {
		numbers[id] = none
	}
	next := 0
	for b, n := range c.blocks {
		if n == none {
			continue
		}
		for _, id := range c.f.Blocks[b].List {
			if has(c.f, id) {
				numbers[id] = next
				next++
			}
		}
	}
	return numbers
}

// block lays down a block and its instructions.
func (c *compaction) block(old api.Block) {
	gone := func(at, _ int) bool {
		return at < len(old.Preds) && renamed(c.blocks, old.Preds[at]) == none
	}
	k := api.Block{Preds: renamedAll(c.blocks, without(old.Preds, gone)), Term: c.end(old.Term)}
	for _, id := range old.List {
		if !has(c.f, id) {
			continue
		}
		x := c.f.Ins[id]
		if x.Op == api.OpPhi {
			x.Args = without(x.Args, gone)
		}
		x.Args = renamedAll(c.ins, x.Args)
		k.List = append(k.List, len(c.out.Ins))
		c.out.Ins = append(c.out.Ins, x)
	}
	c.out.Blocks = append(c.out.Blocks, k)
}

func (c *compaction) end(t api.Term) api.Term {
	t.To = renamedAll(c.blocks, t.To)
	// An end that is none names no instruction.
	if t.Kind != api.TermNone {
		t.Arg = renamed(c.ins, t.Arg)
	}
	return t
}

// renamed is the new number of an old one.
func renamed(numbers []int, old int) int {
	if old < 0 || old >= len(numbers) {
		return none
	}
	return numbers[old]
}

// renamedAll is a new list of new numbers.
func renamedAll(numbers, list []int) []int {
	return mapped(list, func(old int) int { return renamed(numbers, old) })
}
