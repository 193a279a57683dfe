package graph

import (
	"iter"
	"slices"

	"distaff/api"
)

// Reach is the blocks from which one can come to a block without passing another one, itself too.
func Reach(f api.Func, to, without int) []bool {
	reach := make([]bool, len(f.Blocks))
	if !whole(f) || !has(f, to) {
		return reach
	}
	shut := make([]bool, len(f.Blocks))
	if has(f, without) {
		shut[without] = true
	}
	for b := range sources(byPreds(f), to, shut) {
		reach[b] = true
	}
	return reach
}

// Rings is the blocks that are reached, in parts whose blocks all lead to each other; a part stands behind those that it leads to.
func Rings(f api.Func) [][]int {
	order := Order(f)
	back := byEnds(f, order)
	shut := make([]bool, len(f.Blocks))
	var parts [][]int
	for _, b := range order {
		// Whoever leads to the first block of the order that is in no part yet is led to by it, or is in a part ahead.
		if !shut[b] {
			parts = append(parts, slices.Sorted(sources(back, b, shut)))
		}
	}
	slices.Reverse(parts)
	return parts
}

// ways goes over the ways back from a block: over the blocks from which it is come to.
type ways func(b int) iter.Seq[int]

// byPreds is the ways back as blocks tell them by their Preds; some of those may not be there.
func byPreds(f api.Func) ways {
	return func(b int) iter.Seq[int] {
		return func(yield func(int) bool) {
			for _, from := range f.Blocks[b].Preds {
				if has(f, from) && !yield(from) {
					return
				}
			}
		}
	}
}

// byEnds is the ways back among some blocks, as their ends go, whatever their Preds tell.
func byEnds(f api.Func, blocks []int) ways {
	from := make([][]int, len(f.Blocks))
	for _, b := range blocks {
		for _, to := range f.Blocks[b].Term.To {
			from[to] = append(from[to], b)
		}
	}
	return func(b int) iter.Seq[int] { return slices.Values(from[b]) }
}

// sources goes over the blocks from which one can come to a block, itself too, on ways where none is shut; each that it tells is shut then.
func sources(back ways, to int, shut []bool) iter.Seq[int] {
	return func(yield func(int) bool) {
		var left []int
		enter := func(b int) {
			if !shut[b] {
				shut[b] = true
				left = append(left, b)
			}
		}
		enter(to)
		for len(left) > 0 {
			b := left[len(left)-1]
			left = left[:len(left)-1]
			if !yield(b) {
				return
			}
			for from := range back(b) {
				enter(from)
			}
		}
	}
}
