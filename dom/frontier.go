package dom

import (
	"slices"

	"distaff/api"
)

// leads is where all blocks that are reached lead to, block by block as they stand in the row: what a block and all that it stands over lead to is one piece.
type leads struct {
	to    []int
	skip  []int // of each place in to the next one of a block that is less deep
	start []int // of each place in the row where its part of to begins; one more, where to ends
}

func leadsOf(f api.Func, t *Tree) leads {
	row := make([]int, len(t.order))
	for _, b := range t.order {
		row[t.place[b]] = b
	}
	l := leads{start: []int{0}}
	for _, b := range row {
		l.to = append(l.to, f.Blocks[b].Term.To...)
		l.start = append(l.start, len(l.to))
	}
	l.skip = make([]int, len(l.to))
	for at := len(l.to) - 1; at >= 0; at-- {
		next := at + 1
		for next < len(l.to) && t.deep[l.to[next]] >= t.deep[l.to[at]] {
			next = l.skip[next]
		}
		l.skip[at] = next
	}
	return l
}

// Frontier is the blocks to which one leads, or one that it stands over, but that it does not stand over, unless it is itself, rising.
func (t *Tree) Frontier(b int) []int {
	if !t.Reached(b) {
		return nil
	}
	// Up of a block stands over all that lead to it, as b does here: b is over that Up, and is another one than the block, just if the block is deeper than b.
	var list []int
	end := t.out.start[t.past[b]]
	for at := t.out.start[t.place[b]]; at < end; {
		to := t.out.to[at]
		if t.deep[to] > t.deep[b] {
			at = t.out.skip[at]
			continue
		}
		list = append(list, to)
		at++
	}
	slices.Sort(list)
	return slices.Compact(list)
}
