package dom

import (
	"math/rand"
	"slices"
	"testing"

	"distaff/api"
	"distaff/graph"
)

// without is the blocks that one comes to from the first one without entering one (-1: all).
func without(f api.Func, shut int) []bool {
	reached := make([]bool, len(f.Blocks))
	var enter func(b int)
	enter = func(b int) {
		if b == shut || reached[b] {
			return
		}
		reached[b] = true
		for _, to := range f.Blocks[b].Term.To {
			enter(to)
		}
	}
	enter(0)
	return reached
}

// second is a second reading of what stands over what: a block does, without which the other one is not reached.
type second struct {
	f       api.Func
	reached []bool
	over    [][]bool
}

func secondOf(f api.Func) second {
	s := second{f: f, reached: without(f, -1)}
	for a := range f.Blocks {
		rest := without(f, a)
		l := make([]bool, len(f.Blocks))
		for b := range l {
			l[b] = s.reached[a] && s.reached[b] && !rest[b]
		}
		s.over = append(s.over, l)
	}
	return s
}

// nearest is the one of the blocks over all of some (and none of them, if others alone are asked) that all of these stand over.
func (s second) nearest(others bool, some ...int) int {
	best := -1
	for o := range s.over {
		fits := true
		for _, b := range some {
			fits = fits && s.over[o][b] && !(others && o == b)
		}
		if fits && (best == -1 || s.over[best][o]) {
			best = o
		}
	}
	return best
}

func (s second) frontier(b int) []int {
	var l []int
	for y := range s.over {
		led := false
		for x, k := range s.f.Blocks {
			led = led || s.over[b][x] && slices.Contains(k.Term.To, y)
		}
		if led && (y == b || !s.over[b][y]) {
			l = append(l, y)
		}
	}
	return l
}

// agree holds a tree against the second reading.
func agree(t *testing.T, f api.Func) {
	t.Helper()
	x, s := New(f), secondOf(f)
	order := graph.Order(f)
	if got := x.Order(); !slices.Equal(got, order) {
		t.Fatalf("%+v: order %v, not %v", f.Blocks, got, order)
	}
	for b := range f.Blocks {
		if got := x.Reached(b); got != s.reached[b] {
			t.Fatalf("%+v: %d is reached: %v", f.Blocks, b, got)
		}
		if got, want := x.Up(b), s.nearest(true, b); got != want {
			t.Fatalf("%+v: over %d is %d, not %d", f.Blocks, b, got, want)
		}
		var kids []int
		for _, k := range order {
			if s.nearest(true, k) == b {
				kids = append(kids, k)
			}
		}
		if got := x.Kids(b); !slices.Equal(got, kids) {
			t.Fatalf("%+v: under %d are %v, not %v", f.Blocks, b, got, kids)
		}
		if got, want := x.Frontier(b), s.frontier(b); !slices.Equal(got, want) {
			t.Fatalf("%+v: the frontier of %d is %v, not %v", f.Blocks, b, got, want)
		}
		for a := range f.Blocks {
			if got := x.Over(a, b); got != s.over[a][b] {
				t.Fatalf("%+v: %d over %d: %v", f.Blocks, a, b, got)
			}
			if got, want := x.Common(a, b), s.nearest(false, a, b); got != want {
				t.Fatalf("%+v: over %d and %d is %d, not %d", f.Blocks, a, b, got, want)
			}
		}
	}
}

// Promise 9.1: of functions made by chance the same is told as by the second reading.
func TestByChance(t *testing.T) {
	r := rand.New(rand.NewSource(9))
	for range 4000 {
		to := make([][]int, 1+r.Intn(14))
		for b := range to {
			for range r.Intn(3 + r.Intn(2)) {
				to[b] = append(to[b], r.Intn(len(to)))
			}
		}
		agree(t, flow(to...))
	}
}

// Promise 9.1: of long functions made by chance, of which most blocks go on to one near by, too.
func TestLongByChance(t *testing.T) {
	r := rand.New(rand.NewSource(10))
	for range 150 {
		to := make([][]int, 20+r.Intn(30))
		for b := range to {
			near := min(max(b+r.Intn(8)-3, 0), len(to)-1)
			to[b] = list(min(b+1, len(to)-1), near)[:r.Intn(2)+1]
		}
		// What the blocks are called by says nothing of how they lead to each other.
		names := append(list(0), r.Perm(len(to)-1)...)
		for i := range names[1:] {
			names[i+1]++
		}
		turned := make([][]int, len(to))
		for b, l := range to {
			for _, x := range l {
				turned[names[b]] = append(turned[names[b]], names[x])
			}
		}
		agree(t, flow(turned...))
	}
}

// Promise 9.1: all functions of up to three blocks that each go to at most two.
func TestSmall(t *testing.T) {
	for many := 1; many <= 3; many++ {
		var ends [][]int
		for a := -1; a < many; a++ {
			for b := a; b < many; b++ {
				ends = append(ends, slices.DeleteFunc(list(a, b), func(x int) bool { return x < 0 }))
			}
		}
		to := make([][]int, many)
		var fill func(b int)
		fill = func(b int) {
			if b == many {
				agree(t, flow(to...))
				return
			}
			for _, l := range ends {
				to[b] = l
				fill(b + 1)
			}
		}
		fill(0)
	}
}
