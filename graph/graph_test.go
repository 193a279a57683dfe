package graph

import (
	"math"
	"reflect"
	"slices"
	"testing"

	"distaff/api"
)

// Short ways to make functions.

func list(l ...int) []int { return l }

// end is an end that goes to some blocks.
func end(to []int) api.Term {
	switch len(to) {
	case 0:
		return api.Term{Kind: api.TermRet, Arg: -1}
	case 1:
		return api.Term{Kind: api.TermJump, Arg: -1, To: to}
	}
	return api.Term{Kind: api.TermBranch, To: to}
}

// bare is a function whose blocks go so, and have no Preds.
func bare(to ...[]int) api.Func {
	f := api.Func{Name: "f"}
	for _, l := range to {
		f.Blocks = append(f.Blocks, api.Block{Term: end(l)})
	}
	return f
}

// flow is a function whose blocks go so, with the Preds that this makes.
func flow(to ...[]int) api.Func {
	f := bare(to...)
	for b, l := range to {
		for at, x := range l {
			if x >= 0 && x < len(to) && !slices.Contains(l[:at], x) {
				f.Blocks[x].Preds = append(f.Blocks[x].Preds, b)
			}
		}
	}
	return f
}

// truths is of each number below many whether it is one of some.
func truths(many int, some ...int) []bool {
	l := make([]bool, many)
	for _, x := range some {
		l[x] = true
	}
	return l
}

// twoLoops is one loop in another one, and a block that nobody comes to: 1 is the outer head, 2 and 3 the inner loop, 4 goes back, 5 is behind.
func twoLoops() api.Func {
	return flow(list(1), list(2, 5), list(3, 4), list(2), list(1), nil, list(5, 2))
}

// outside is numbers of blocks that no function has.
var outside = []int{-1, math.MinInt, math.MaxInt, -7, 1 << 40}

// Promise 8.1: blocks are entered once, their To in their order, and told as they are left.
func TestPost(t *testing.T) {
	for _, c := range []struct {
		name string
		f    api.Func
		want []int
	}{
		{"one", flow(nil), list(0)},
		{"itself", flow(list(0)), list(0)},
		{"row", flow(list(1), list(2), nil), list(2, 1, 0)},
		{"row the other way round", flow(list(2), nil, list(1)), list(1, 2, 0)},
		{"example", flow(list(1), list(1, 2), nil), list(2, 1, 0)},
		{"diamond", flow(list(1, 2), list(3), list(3), nil), list(3, 1, 2, 0)},
		{"diamond turned", flow(list(2, 1), list(3), list(3), nil), list(3, 2, 1, 0)},
		{"one to both", flow(list(1, 1), nil), list(1, 0)},
		{"back to the first", flow(list(1, 2), list(0), list(0)), list(1, 2, 0)},
		{"the second way is gone over from within the first", flow(list(1, 2), list(3, 2), nil, list(2)), list(2, 3, 1, 0)},
		{"first far, then near", flow(list(1, 4), list(2), list(3), list(4, 1), nil), list(4, 3, 2, 1, 0)},
		{"first near, then far", flow(list(4, 1), list(2), list(3), list(4, 1), nil), list(4, 3, 2, 1, 0)},
		{"not reached", flow(list(2), list(2), nil), list(2, 0)},
		{"not reached, among themselves", flow(nil, list(2, 0), list(1)), list(0)},
		{"loops", twoLoops(), list(3, 4, 2, 5, 1, 0)},
		{"many ways", flow(list(3, 1, 2, 1), list(4), list(4, 3), nil, nil), list(3, 4, 1, 2, 0)},
	} {
		if got := Post(c.f); !slices.Equal(got, c.want) {
			t.Errorf("%s: %v, not %v", c.name, got, c.want)
		}
		slices.Reverse(c.want)
		if got := Order(c.f); !slices.Equal(got, c.want) {
			t.Errorf("%s the other way round: %v, not %v", c.name, got, c.want)
		}
	}
}

// Promise 8.1: Post asks ends alone, whatever their kind; Preds say nothing to it.
func TestPostAsksEnds(t *testing.T) {
	f := flow(list(1, 2), list(0), nil)
	for kind := range 5 {
		for b := range f.Blocks {
			f.Blocks[b].Term.Kind = kind
			f.Blocks[b].Preds = outside
		}
		if got := Post(f); !slices.Equal(got, list(1, 2, 0)) {
			t.Error(kind, got)
		}
		if got := Rings(f); !reflect.DeepEqual(got, [][]int{{2}, {0, 1}}) {
			t.Error(kind, got)
		}
	}
}

// Promise 8.1: there is nothing, if there are no blocks, or an end, of a block that is not reached too, goes to one that is not there.
func TestNothing(t *testing.T) {
	broken := []api.Func{{}, {Name: "f", Ins: []api.Ins{{Op: api.OpConst}}, Blocks: []api.Block{}}}
	for _, x := range append(outside, 3) {
		broken = append(broken,
			flow(list(x), nil, nil),
			flow(list(1, x), list(2), nil),
			flow(list(x, 1), list(2), nil),
			flow(list(1), list(2), list(0, x)),
			flow(list(1), nil, list(x)),
			flow(list(1), list(0), list(1, 1, x)),
		)
	}
	for _, f := range broken {
		if post, order, rings := Post(f), Order(f), Rings(f); len(post)+len(order)+len(rings) > 0 {
			t.Error(f.Blocks, post, order, rings)
		}
		for to := -1; to <= len(f.Blocks); to++ {
			for _, without := range append(outside, 0, 1, 2, 3) {
				if got := Reach(f, to, without); !slices.Equal(got, make([]bool, len(f.Blocks))) {
					t.Error(f.Blocks, to, without, got)
				}
			}
		}
	}
}

// Promise 8.1: the place of each block, the last one of one that stands twice; blocks that are not below many are nowhere.
func TestPlaces(t *testing.T) {
	for _, c := range []struct {
		order []int
		many  int
		want  []int
	}{
		{nil, 0, nil},
		{nil, 3, list(-1, -1, -1)},
		{list(0), 1, list(0)},
		{list(0, 2, 1), 3, list(0, 2, 1)},
		{list(2, 0), 3, list(1, -1, 0)},
		{list(2, 0), 5, list(1, -1, 0, -1, -1)},
		{list(1, 1), 2, list(-1, 1)},
		{list(1, 0, 1, 0, 1, 2), 3, list(3, 4, 5)},
		{list(3, 1, 2), 2, list(-1, 1)},
		{list(2, 1), 2, list(-1, 1)},
		{list(-1, 1, math.MinInt, 0, math.MaxInt), 2, list(3, 1)},
		{list(0, 1), 0, nil},
		{list(0, 1), -1, nil},
		{list(0, -1), math.MinInt, nil},
	} {
		before := slices.Clone(c.order)
		if got := Places(c.order, c.many); !slices.Equal(got, c.want) {
			t.Errorf("%v, %d: %v, not %v", c.order, c.many, got, c.want)
		}
		if !slices.Equal(c.order, before) {
			t.Errorf("changed: %v, %v", before, c.order)
		}
	}
	f := twoLoops()
	if got := Places(Order(f), len(f.Blocks)); !slices.Equal(got, list(0, 1, 3, 5, 4, 2, -1)) {
		t.Error(got)
	}
}

// Promise 8.1: whether one can come to a block, itself too, without another one on the way.
func TestReach(t *testing.T) {
	diamond := flow(list(1, 2), list(3), list(3), nil)
	for _, c := range []struct {
		name        string
		f           api.Func
		to, without int
		want        []bool
	}{
		{"all", diamond, 3, -1, truths(4, 0, 1, 2, 3)},
		{"but for one side", diamond, 3, 1, truths(4, 0, 2, 3)},
		{"but for the first", diamond, 3, 0, truths(4, 1, 2, 3)},
		{"itself left out", diamond, 3, 3, truths(4)},
		{"nobody else", diamond, 0, -1, truths(4, 0)},
		{"what is behind does not matter", diamond, 1, 3, truths(4, 0, 1)},
		{"one that is not on the way", diamond, 1, 2, truths(4, 0, 1)},
		{"inner loop", twoLoops(), 3, 2, truths(7, 3)},
		{"outer loop", twoLoops(), 4, 1, truths(7, 2, 3, 4, 6)},
		{"round and round", twoLoops(), 4, -1, truths(7, 0, 1, 2, 3, 4, 6)},
		{"from who is not reached", twoLoops(), 5, 1, truths(7, 5, 6)},
		{"to who is not reached", twoLoops(), 6, 0, truths(7, 6)},
		{"round itself", flow(list(0)), 0, -1, truths(1, 0)},
		{"round itself, left out", flow(list(0)), 0, 0, truths(1)},
		{"ahead of it all is shut", flow(list(1), list(2), list(3), nil), 3, 2, truths(4, 3)},
		{"half is shut", flow(list(1), list(2), list(3), nil), 3, 1, truths(4, 2, 3)},
	} {
		if got := Reach(c.f, c.to, c.without); !slices.Equal(got, c.want) {
			t.Errorf("%s: %v, not %v", c.name, got, c.want)
		}
	}
}

// Promise 8.1: to one that is not there nobody comes; without one that is not there nothing is left out.
func TestReachOutside(t *testing.T) {
	f := twoLoops()
	for _, x := range append(outside, len(f.Blocks)) {
		for b := range f.Blocks {
			if got := Reach(f, x, b); !slices.Equal(got, truths(7)) {
				t.Error(x, b, got)
			}
		}
		if got := Reach(f, x, x); !slices.Equal(got, truths(7)) {
			t.Error(x, got)
		}
		if got := Reach(f, 3, x); !slices.Equal(got, truths(7, 0, 1, 2, 3, 4, 6)) {
			t.Error(x, got)
		}
	}
}

// Promise 8.1: Reach asks Preds alone, but for those that are not there; ends say nothing to it.
func TestReachAsksPreds(t *testing.T) {
	f := bare(list(1), list(2), list(3), nil)
	if got := Reach(f, 3, -1); !slices.Equal(got, truths(4, 3)) {
		t.Error("without Preds:", got)
	}
	f.Blocks[0].Preds = list(3, 3)
	f.Blocks[3].Preds = append(append([]int{4}, outside...), 1, 1, 3)
	if got := Reach(f, 0, -1); !slices.Equal(got, truths(4, 0, 1, 3)) {
		t.Error("Preds against ends:", got)
	}
	if got := Reach(f, 0, 3); !slices.Equal(got, truths(4, 0)) {
		t.Error("Preds against ends, without one:", got)
	}
	if got := Post(f); !slices.Equal(got, list(3, 2, 1, 0)) {
		t.Error(got)
	}
}

// Promise 8.1: the blocks that are reached, in parts, rising; a part stands behind all that it leads to. (Of these functions the parts can stand in one order alone.)
func TestRings(t *testing.T) {
	for _, c := range []struct {
		name string
		f    api.Func
		want [][]int
	}{
		{"example", flow(list(1), list(1, 2), nil), [][]int{{2}, {1}, {0}}},
		{"one", flow(nil), [][]int{{0}}},
		{"itself", flow(list(0)), [][]int{{0}}},
		{"row", flow(list(2), nil, list(1)), [][]int{{1}, {2}, {0}}},
		{"all", flow(list(2), list(0), list(3), list(1)), [][]int{{0, 1, 2, 3}}},
		{"loop in a loop", twoLoops(), [][]int{{5}, {1, 2, 3, 4}, {0}}},
		{"loops one behind the other", flow(list(4), list(2), list(1, 5), list(4), list(3, 1), nil), [][]int{{5}, {1, 2}, {3, 4}, {0}}},
		{"two heads", flow(list(1, 2), list(2), list(1)), [][]int{{1, 2}, {0}}},
		{"one way round of two", flow(list(3), list(0), list(0), list(2, 1)), [][]int{{0, 1, 2, 3}}},
		{"not reached", flow(nil, list(2, 0), list(1)), [][]int{{0}}},
		{"not reached, leads into a part", flow(list(1), list(1), list(1, 0)), [][]int{{1}, {0}}},
		{"far way to what is near", flow(list(3, 1), list(2), nil, list(1)), [][]int{{2}, {1}, {3}, {0}}},
		{"near way to what is far", flow(list(2, 1), list(3), list(1), nil), [][]int{{3}, {1}, {2}, {0}}},
	} {
		if got := Rings(c.f); !reflect.DeepEqual(got, c.want) {
			t.Errorf("%s: %v, not %v", c.name, got, c.want)
		}
	}
}

// Promise 8.1, R1: ways as long as there are blocks end, too.
func TestLong(t *testing.T) {
	const many = 1 << 19
	to := make([][]int, many)
	for b := range many - 1 {
		to[b] = list(b + 1)
	}
	f := flow(to...)
	post := Post(f)
	if len(post) != many || post[0] != many-1 || post[many-1] != 0 {
		t.Error(len(post))
	}
	if got := Reach(f, many-1, many/2); got[many/2] || !got[many/2+1] || got[0] {
		t.Error("wrong")
	}
	if got := Rings(f); len(got) != many || got[0][0] != many-1 {
		t.Error(len(got))
	}
	to[many-1] = list(0)
	if got := Rings(flow(to...)); len(got) != 1 || len(got[0]) != many || !slices.IsSorted(got[0]) {
		t.Error(len(got))
	}
}

// copied is a function's own copy, as far as this layer asks of it.
func copied(f api.Func) api.Func {
	out := api.Func{Name: f.Name}
	for _, k := range f.Blocks {
		k.Preds, k.Term.To = slices.Clone(k.Preds), slices.Clone(k.Term.To)
		out.Blocks = append(out.Blocks, k)
	}
	return out
}

// spoil writes over a list, and over the room behind it.
func spoil[T any](l []T, x T) {
	l = l[:cap(l)]
	for i := range l {
		l[i] = x
	}
}

// R2, R4: what was handed in stays; what is done to an answer changes nothing, and the same calls answer the same.
func TestOwn(t *testing.T) {
	f := twoLoops()
	before := copied(f)
	for range 3 {
		post, order, reach, rings := Post(f), Order(f), Reach(f, 4, 1), Rings(f)
		if !reflect.DeepEqual(f, before) {
			t.Fatal("changed", f, before)
		}
		if !slices.Equal(post, list(3, 4, 2, 5, 1, 0)) || !slices.Equal(order, list(0, 1, 5, 2, 4, 3)) ||
			!slices.Equal(reach, truths(7, 2, 3, 4, 6)) || !reflect.DeepEqual(rings, [][]int{{5}, {1, 2, 3, 4}, {0}}) {
			t.Fatal(post, order, reach, rings)
		}
		spoil(post, -9)
		if !slices.Equal(order, list(0, 1, 5, 2, 4, 3)) {
			t.Fatal("Order and Post share", order)
		}
		places := Places(order, 7)
		spoil(order, -9)
		if !slices.Equal(places, list(0, 1, 3, 5, 4, 2, -1)) {
			t.Fatal(places)
		}
		spoil(places, -9)
		spoil(reach, true)
		for at := range rings {
			others := slices.Concat(rings[:at], rings[at+1:])
			want := make([][]int, 0, len(others))
			for _, p := range others {
				want = append(want, slices.Clone(p))
			}
			spoil(rings[at], -9)
			if !reflect.DeepEqual(others, want) {
				t.Fatal("parts share", others, want)
			}
		}
		spoil(rings, nil)
	}
}
