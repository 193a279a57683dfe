package dom

import (
	"slices"

	"distaff/api"
)

// ups is each block's Up; none: there is none, or it is not reached. All ends go to blocks that are there.
// It is found as Lengauer and Tarjan found it: going over all blocks until nothing changes would take too long where there are many blocks, and ways into the midst of loops.
func ups(f api.Func) []int {
	w := enter(f)
	up := slices.Repeat([]int{none}, len(f.Blocks))
	for turn, over := range newSearch(w).run(w, back(f, w)) {
		if over != none {
			up[w.blocks[turn]] = w.blocks[over]
		}
	}
	return up
}

// walk is the blocks that are reached, as a walk enters them, which goes on from the last one as long as it can.
type walk struct {
	blocks []int // by their turns
	turn   []int // of each block; none: it is not reached
	from   []int // of each turn the turn of the block from which it was entered
}

// step is a way that the walk may take, from a turn to a block.
type step struct{ from, to int }

func enter(f api.Func) walk {
	w := walk{turn: slices.Repeat([]int{none}, len(f.Blocks))}
	left := []step{{from: none}}
	for len(left) > 0 {
		s := left[len(left)-1]
		left = left[:len(left)-1]
		if w.turn[s.to] != none {
			continue
		}
		turn := len(w.blocks)
		w.turn[s.to] = turn
		w.blocks = append(w.blocks, s.to)
		w.from = append(w.from, s.from)
		for _, to := range f.Blocks[s.to].Term.To {
			left = append(left, step{from: turn, to: to})
		}
	}
	return w
}

// back is of each turn the turns of the blocks that lead to it.
func back(f api.Func, w walk) [][]int {
	from := make([][]int, len(w.blocks))
	for turn, b := range w.blocks {
		for _, to := range f.Blocks[b].Term.To {
			from[w.turn[to]] = append(from[w.turn[to]], turn)
		}
	}
	return from
}

// search finds the Up of each block; blocks are told by their turns.
type search struct {
	up    []int
	early []int // the earliest block from which one comes to each over later ones alone, as far as it is known
	// Of the blocks that were searched chains are made, up the walk; they are made shorter each time they are gone over.
	above []int // the next one of the chain; none: this one was not searched yet
	best  []int // the one with the least early of the part of the chain that was left out, and of itself
	path  []int // of the last chain: to be used again
}

func newSearch(w walk) *search {
	s := &search{
		up:    slices.Repeat([]int{none}, len(w.blocks)),
		early: make([]int, len(w.blocks)),
		above: slices.Repeat([]int{none}, len(w.blocks)),
		best:  make([]int, len(w.blocks)),
	}
	for b := range w.blocks {
		s.early[b], s.best[b] = b, b
	}
	return s
}

// run is the Up of each block, from those that lead to each; the first block has none.
func (s *search) run(w walk, back [][]int) []int {
	wait := make([][]int, len(w.blocks)) // of each block those whose early it is
	for b := len(w.blocks) - 1; b > 0; b-- {
		for _, from := range back[b] {
			s.early[b] = min(s.early[b], s.early[s.least(from)])
		}
		wait[s.early[b]] = append(wait[s.early[b]], b)
		from := w.from[b]
		s.above[b] = from
		for _, x := range wait[from] {
			// If one on the walk between is come to from earlier, its Up, which is not known yet, is that of x.
			s.up[x] = from
			if least := s.least(x); s.early[least] < from {
				s.up[x] = least
			}
		}
		wait[from] = nil
	}
	for b := range s.up {
		if s.up[b] != none && s.up[b] != s.early[b] {
			s.up[b] = s.up[s.up[b]]
		}
	}
	return s.up
}

// least is the one with the least early on the chain from a block on, but for the chain's last one; of a block that was not searched yet, itself.
func (s *search) least(b int) int {
	s.path = s.path[:0]
	for x := b; s.above[x] != none && s.above[s.above[x]] != none; x = s.above[x] {
		s.path = append(s.path, x)
	}
	for _, x := range slices.Backward(s.path) {
		above := s.above[x]
		if s.early[s.best[above]] < s.early[s.best[x]] {
			s.best[x] = s.best[above]
		}
		s.above[x] = s.above[above]
	}
	return s.best[b]
}
