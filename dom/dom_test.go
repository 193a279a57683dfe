package dom

import (
	"math"
	"reflect"
	"slices"
	"testing"

	"distaff/api"
	"distaff/graph"
)

// Short ways to make functions.

func list(l ...int) []int { return l }

// end is an end that goes to some blocks.
func end(to []int) api.Term {
	switch len(to) {
	case 0:
		return api.Term{Kind: api.TermRet, Arg: -1}
	case 1:
		return api.Term{Kind: api.TermJump, Arg: -1, To: to}
	}
	return api.Term{Kind: api.TermBranch, To: to}
}

// bare is a function whose blocks go so, and have no Preds.
func bare(to ...[]int) api.Func {
	f := api.Func{Name: "f"}
	for _, l := range to {
		f.Blocks = append(f.Blocks, api.Block{Term: end(l)})
	}
	return f
}

// flow is a function whose blocks go so, with the Preds that this makes.
func flow(to ...[]int) api.Func {
	f := bare(to...)
	for b, l := range to {
		for at, x := range l {
			if x >= 0 && x < len(to) && !slices.Contains(l[:at], x) {
				f.Blocks[x].Preds = append(f.Blocks[x].Preds, b)
			}
		}
	}
	return f
}

// twoLoops is one loop in another one, and a block that nobody comes to: 1 is the outer head, 2 and 3 the inner loop, 4 goes back, 5 is behind.
func twoLoops() api.Func {
	return flow(list(1), list(2, 5), list(3, 4), list(2), list(1), nil, list(5, 2))
}

// tangled is a loop with two heads, 2 and 3, that one comes to from 1 by both; 4 goes back to 1, too.
func tangled() api.Func {
	return flow(list(1), list(2, 3), list(3, 4), list(2, 4), list(1, 5), nil)
}

// paper is the function of thirteen blocks by which Lengauer and Tarjan showed their search: R, A to L.
func paper() api.Func {
	return flow(list(1, 2, 3), list(4), list(1, 4, 5), list(6, 7), list(12), list(8), list(9), list(9, 10), list(5, 11), list(11), list(9), list(9, 0), list(8))
}

// outside is numbers of blocks that no function has.
var outside = []int{-1, math.MinInt, math.MaxInt, -7, 1 << 40, 1 << 32}

// tellings is functions, and what is to be told of them: of blocks that are not reached nothing.
var tellings = []struct {
	name     string
	f        api.Func
	up       []int
	kids     [][]int
	frontier [][]int
}{
	{"one", flow(nil), list(-1), [][]int{nil}, [][]int{nil}},
	{"round itself", flow(list(0)), list(-1), [][]int{nil}, [][]int{{0}}},
	{"row", flow(list(1), list(2), nil), list(-1, 0, 1), [][]int{{1}, {2}, nil}, [][]int{nil, nil, nil}},
	{"row the other way round", flow(list(2), nil, list(1)), list(-1, 2, 0), [][]int{{2}, nil, {1}}, [][]int{nil, nil, nil}},
	{"example", flow(list(1, 2), list(3), list(3), nil), list(-1, 0, 0, 0), [][]int{{2, 1, 3}, nil, nil, nil}, [][]int{nil, {3}, {3}, nil}},
	{"one side", flow(list(1, 2), list(2), nil), list(-1, 0, 0), [][]int{{1, 2}, nil, nil}, [][]int{nil, {2}, nil}},
	{"both ways to one", flow(list(1, 1), nil), list(-1, 0), [][]int{{1}, nil}, [][]int{nil, nil}},
	{"a block round itself", flow(list(1), list(1, 2), nil), list(-1, 0, 1), [][]int{{1}, {2}, nil}, [][]int{nil, {1}, nil}},
	{"back to the first", flow(list(1, 2), list(0), nil), list(-1, 0, 0), [][]int{{2, 1}, nil, nil}, [][]int{{0}, {0}, nil}},
	{"loops", twoLoops(), list(-1, 0, 1, 2, 2, 1, -1), [][]int{{1}, {5, 2}, {4, 3}, nil, nil, nil, nil}, [][]int{nil, {1}, {1, 2}, {2}, {1}, nil, nil}},
	{"two heads", tangled(), list(-1, 0, 1, 1, 1, 4), [][]int{{1}, {2, 3, 4}, nil, nil, {5}, nil}, [][]int{nil, {1}, {3, 4}, {2, 4}, {1}, nil}},
	{"all round", flow(list(1, 2), list(2), list(1)), list(-1, 0, 0), [][]int{{1, 2}, nil, nil}, [][]int{nil, {2}, {1}}},
	{"not reached", flow(list(2), list(2, 1), nil), list(-1, -1, 0), [][]int{{2}, nil, nil}, [][]int{nil, nil, nil}},
	{"not reached, to the first", flow(nil, list(2, 0), list(1)), list(-1, -1, -1), [][]int{nil, nil, nil}, [][]int{nil, nil, nil}},
	{"many ends", flow(list(3, 1, 2), list(4), list(4), list(4, 5), nil, list(3)), list(-1, 0, 0, 0, 0, 3), [][]int{{2, 1, 3, 4}, nil, nil, {5}, nil, nil}, [][]int{nil, {4}, {4}, {3, 4}, nil, {3}}},
	{"break from within", flow(list(1), list(2, 5), list(3, 4), list(5), list(1), nil), list(-1, 0, 1, 2, 2, 1), [][]int{{1}, {2, 5}, {4, 3}, nil, nil, nil}, [][]int{nil, {1}, {1, 5}, {5}, {1}, nil}},
	{"paper", paper(), list(-1, 0, 0, 0, 0, 0, 3, 3, 0, 0, 7, 0, 4),
		[][]int{{3, 2, 1, 4, 8, 11, 9, 5}, nil, nil, {7, 6}, {12}, nil, nil, {10}, nil, nil, nil, nil, nil},
		[][]int{{0}, {4}, {1, 4, 5}, {9}, {8}, {8}, {9}, {9}, {5, 11}, {11}, {9}, {0, 9}, {8}}},
}

// Promise 9.1: Up, Kids and Frontier of each block; Order is graph's, and tells which blocks are reached.
func TestTree(t *testing.T) {
	for _, c := range tellings {
		x := New(c.f)
		order := graph.Order(c.f)
		if got := x.Order(); !slices.Equal(got, order) {
			t.Errorf("%s: order %v, not %v", c.name, got, order)
		}
		for b := range c.f.Blocks {
			if got := x.Reached(b); got != slices.Contains(order, b) {
				t.Errorf("%s: block %d is reached: %v", c.name, b, got)
			}
			if got := x.Up(b); got != c.up[b] {
				t.Errorf("%s: over %d is %d, not %d", c.name, b, got, c.up[b])
			}
			if got := x.Kids(b); !slices.Equal(got, c.kids[b]) {
				t.Errorf("%s: under %d are %v, not %v", c.name, b, got, c.kids[b])
			}
			if got := x.Frontier(b); !slices.Equal(got, c.frontier[b]) {
				t.Errorf("%s: the frontier of %d is %v, not %v", c.name, b, got, c.frontier[b])
			}
		}
	}
}

// Promise 9.1: a block stands over itself and over all that its kids stand over, and over no others; Common is the nearest one over both.
func TestOverAndCommon(t *testing.T) {
	for _, c := range tellings {
		x := New(c.f)
		over := func(b int) []int {
			var l []int
			for x.Reached(b) {
				l = append(l, b)
				b = c.up[b]
			}
			return l
		}
		for a := range c.f.Blocks {
			for b := range c.f.Blocks {
				if got, want := x.Over(a, b), slices.Contains(over(b), a); got != want {
					t.Errorf("%s: %d over %d: %v, not %v", c.name, a, b, got, want)
				}
				want := -1
				for _, o := range slices.Backward(over(a)) {
					if slices.Contains(over(b), o) {
						want = o
					}
				}
				if got := x.Common(a, b); got != want {
					t.Errorf("%s: over %d and %d is %d, not %d", c.name, a, b, got, want)
				}
			}
		}
	}
}

// Promise 9.1: some of what is told of a loop in a loop, by hand.
func TestLoops(t *testing.T) {
	x := New(twoLoops())
	for _, c := range []struct {
		a, b   int
		over   bool
		common int
	}{
		{0, 0, true, 0}, {0, 5, true, 0}, {5, 0, false, 0}, {3, 3, true, 3}, {2, 4, true, 2}, {4, 2, false, 2},
		{3, 4, false, 2}, {4, 3, false, 2}, {5, 4, false, 1}, {3, 5, false, 1}, {1, 4, true, 1},
		{6, 6, false, -1}, {6, 2, false, -1}, {2, 6, false, -1}, {0, 6, false, -1}, {6, 0, false, -1},
	} {
		if got := x.Over(c.a, c.b); got != c.over {
			t.Error(c.a, c.b, got)
		}
		if got := x.Common(c.a, c.b); got != c.common {
			t.Error(c.a, c.b, got)
		}
	}
	if x.Reached(6) || x.Up(6) != -1 || len(x.Kids(6))+len(x.Frontier(6)) > 0 {
		t.Error("told of a block that is not reached:", x.Up(6), x.Kids(6), x.Frontier(6))
	}
}

// tellsNothing asks a tree of a block, which is not there, and of it and one more.
func tellsNothing(t *testing.T, x *Tree, b, other int) {
	t.Helper()
	if x.Reached(b) || x.Over(b, b) || x.Over(b, other) || x.Over(other, b) {
		t.Error("true of", b, other)
	}
	if up, c, d, e := x.Up(b), x.Common(b, b), x.Common(b, other), x.Common(other, b); up != -1 || c != -1 || d != -1 || e != -1 {
		t.Error("of", b, other, up, c, d, e)
	}
	if kids, frontier := x.Kids(b), x.Frontier(b); len(kids)+len(frontier) > 0 {
		t.Error("of", b, kids, frontier)
	}
}

// Promise 9.1: of a nil tree, or of a block that is not there, nothing is told.
func TestNotThere(t *testing.T) {
	var without *Tree
	empty := New(api.Func{})
	for _, x := range []*Tree{without, empty, {}} {
		if got := x.Order(); len(got) > 0 {
			t.Error(got)
		}
		for _, b := range append(outside, 0, 1) {
			tellsNothing(t, x, b, 0)
		}
	}
	f := twoLoops()
	x := New(f)
	for _, b := range append(outside, len(f.Blocks)) {
		for other := range f.Blocks {
			tellsNothing(t, x, b, other)
		}
		tellsNothing(t, x, b, -1)
	}
}

// R1: a function with an end that goes to a block that is not there has a tree, too, that tells nothing.
func TestBroken(t *testing.T) {
	for _, wrong := range append(outside, 3) {
		for _, f := range []api.Func{
			flow(list(wrong), nil, nil),
			flow(list(1, wrong), list(2), nil),
			flow(list(1), list(2), list(wrong, 0)),
			flow(list(1), nil, list(wrong)),
		} {
			x := New(f)
			if got := x.Order(); len(got) > 0 {
				t.Error(got)
			}
			for b := range f.Blocks {
				tellsNothing(t, x, b, 0)
			}
		}
	}
}

// Promise 9.1: ways are where ends go, of whatever kind; what Preds say is not asked.
func TestAsksEnds(t *testing.T) {
	want := New(twoLoops())
	for kind := range 5 {
		f := twoLoops()
		for b := range f.Blocks {
			f.Blocks[b].Term.Kind = kind
			f.Blocks[b].Preds = outside
		}
		if got := New(f); !reflect.DeepEqual(got, want) {
			t.Error(kind, got, want)
		}
	}
}

// spoil writes over a list, and over the room behind it.
func spoil(l []int) {
	l = l[:cap(l)]
	for i := range l {
		l[i] = -9
	}
}

// R2, R4: what was handed in stays, and may be changed later; what is done to an answer changes nothing.
func TestOwn(t *testing.T) {
	for _, c := range tellings {
		f := flow()
		for _, k := range c.f.Blocks {
			k.Preds, k.Term.To = slices.Clone(k.Preds), slices.Clone(k.Term.To)
			f.Blocks = append(f.Blocks, k)
		}
		x := New(f)
		if !reflect.DeepEqual(f.Blocks, c.f.Blocks) {
			t.Fatal(c.name, "changed", f.Blocks)
		}
		for b := range f.Blocks {
			spoil(f.Blocks[b].Preds)
			spoil(f.Blocks[b].Term.To)
			f.Blocks[b] = api.Block{}
		}
		for range 2 {
			order := x.Order()
			if !slices.Equal(order, graph.Order(c.f)) {
				t.Error(c.name, order)
			}
			spoil(order)
			for b := range c.f.Blocks {
				up, kids, frontier := x.Up(b), x.Kids(b), x.Frontier(b)
				if up != c.up[b] || !slices.Equal(kids, c.kids[b]) || !slices.Equal(frontier, c.frontier[b]) {
					t.Error(c.name, b, up, kids, frontier)
				}
				spoil(kids)
				spoil(frontier)
			}
		}
		if !reflect.DeepEqual(x, New(c.f)) {
			t.Error(c.name, "is another tree then")
		}
	}
}
