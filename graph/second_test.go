package graph

import (
	"math/rand"
	"slices"
	"testing"

	"distaff/api"
)

// secondPost is a second reading of how blocks are gone through: by a call for each block.
func secondPost(f api.Func) []int {
	entered := map[int]bool{}
	var left []int
	var enter func(b int)
	enter = func(b int) {
		if entered[b] {
			return
		}
		entered[b] = true
		for _, to := range f.Blocks[b].Term.To {
			enter(to)
		}
		left = append(left, b)
	}
	enter(0)
	return left
}

// secondReach is a second reading of Reach: blocks come to it as long as there are new ones.
func secondReach(f api.Func, to, without int) []bool {
	reach := make([]bool, len(f.Blocks))
	if to < 0 || to >= len(f.Blocks) || to == without {
		return reach
	}
	reach[to] = true
	for again := true; again; {
		again = false
		for b, k := range f.Blocks {
			for _, p := range k.Preds {
				if reach[b] && p >= 0 && p < len(f.Blocks) && p != without && !reach[p] {
					reach[p], again = true, true
				}
			}
		}
	}
	return reach
}

// leads tells of each two blocks whether the one is the other, or ways lead from it there.
func leads(f api.Func) [][]bool {
	n := len(f.Blocks)
	lead := make([][]bool, n)
	for b, k := range f.Blocks {
		lead[b] = truths(n, append(list(b), k.Term.To...)...)
	}
	for via := range n {
		for a := range n {
			for b := range n {
				lead[a][b] = lead[a][b] || lead[a][via] && lead[via][b]
			}
		}
	}
	return lead
}

// areRings asks whether parts are those of a function, and stand in a row that may be.
func areRings(f api.Func, parts [][]int) bool {
	lead := leads(f)
	at := slices.Repeat(list(-1), len(f.Blocks))
	for i, p := range parts {
		if len(p) == 0 || !slices.IsSorted(p) {
			return false
		}
		for _, b := range p {
			if b < 0 || b >= len(at) || at[b] >= 0 {
				return false
			}
			at[b] = i
		}
	}
	for a := range at {
		if lead[0][a] != (at[a] >= 0) {
			return false
		}
		for b := range at {
			if at[a] < 0 || at[b] < 0 {
				continue
			}
			if (at[a] == at[b]) != (lead[a][b] && lead[b][a]) || lead[a][b] && at[a] < at[b] {
				return false
			}
		}
	}
	return true
}

// chance is a function made by chance, whose Preds its ends make.
func chance(r *rand.Rand) api.Func {
	to := make([][]int, 1+r.Intn(12))
	for b := range to {
		for range r.Intn(3 + r.Intn(2)) {
			to[b] = append(to[b], r.Intn(len(to)))
		}
	}
	return flow(to...)
}

// mislead lets Preds be any numbers, some of blocks that are not there.
func mislead(r *rand.Rand, f api.Func) {
	for b := range f.Blocks {
		f.Blocks[b].Preds = nil
		for range r.Intn(4) {
			f.Blocks[b].Preds = append(f.Blocks[b].Preds, r.Intn(len(f.Blocks)+2)-1)
		}
	}
}

// Promise 8.1: of any function the same comes as by the second readings.
func TestByChance(t *testing.T) {
	r := rand.New(rand.NewSource(8))
	for round := range 6000 {
		f := chance(r)
		if round%2 == 1 {
			mislead(r, f)
		}
		want := secondPost(f)
		if got := Post(f); !slices.Equal(got, want) {
			t.Fatalf("%+v: %v, not %v", f.Blocks, got, want)
		}
		order := Order(f)
		slices.Reverse(want)
		if !slices.Equal(order, want) {
			t.Fatalf("%+v: %v, not %v", f.Blocks, order, want)
		}
		for b, at := range Places(order, len(f.Blocks)) {
			if at != slices.Index(order, b) {
				t.Fatalf("%+v: %d is at %d of %v", f.Blocks, b, at, order)
			}
		}
		if got := Rings(f); !areRings(f, got) {
			t.Fatalf("%+v: %v", f.Blocks, got)
		}
		for range 8 {
			to, without := r.Intn(len(f.Blocks)+2)-1, r.Intn(len(f.Blocks)+2)-1
			if got, want := Reach(f, to, without), secondReach(f, to, without); !slices.Equal(got, want) {
				t.Fatalf("%+v, to %d without %d: %v, not %v", f.Blocks, to, without, got, want)
			}
		}
	}
}

// Promise 8.1: a function with one end that goes wrong comes to nothing, wherever that end is.
func TestBrokenByChance(t *testing.T) {
	r := rand.New(rand.NewSource(9))
	for range 2000 {
		f := chance(r)
		k := &f.Blocks[r.Intn(len(f.Blocks))]
		wrong := list(-1, len(f.Blocks), len(f.Blocks)+r.Intn(100), -r.Intn(100)-1)[r.Intn(4)]
		k.Term.To = slices.Insert(k.Term.To, r.Intn(len(k.Term.To)+1), wrong)
		reach := Reach(f, r.Intn(len(f.Blocks)), -1)
		if len(Post(f))+len(Order(f))+len(Rings(f)) > 0 || !slices.Equal(reach, make([]bool, len(f.Blocks))) {
			t.Fatalf("%+v: %v", f.Blocks, reach)
		}
	}
}

// Promise 8.1: what goes over blocks back can be left off at any of them.
func TestSourcesLeftOff(t *testing.T) {
	f := twoLoops()
	for most := range 7 {
		n := 0
		for range sources(byPreds(f), 4, make([]bool, len(f.Blocks))) {
			n++
			if n > most {
				break
			}
		}
		if n != min(most+1, 6) {
			t.Error(most, n)
		}
	}
	for from := range byPreds(f)(2) {
		if from != 1 {
			t.Error(from)
		}
		break
	}
}
