package ir

import (
	"math"
	"math/rand"
	"testing"

	"distaff/api"
)

// Promise 7.1: a function whose blocks are all reached, and whose instructions stand as they are numbered, stays.
func TestCompactOfWhole(t *testing.T) {
	for _, f := range []api.Func{{}, {Name: "f", Params: list(1, 3), Ret: 2}, counts(), diamond()} {
		want(t, Compact(f), f)
	}
}

// The chapter's example.
func TestCompactOfTwoBlocks(t *testing.T) {
	f := api.Func{Blocks: []api.Block{block(Ret(-1), nil, nil), block(Ret(-1), nil, nil)}}
	want(t, Compact(f), api.Func{Blocks: f.Blocks[:1]})
}

// Promise 7.1: numbers are new, blocks in the order of the old ones, instructions as they stand.
func TestCompactNumbersAnew(t *testing.T) {
	f := api.Func{
		Name:   "f",
		Params: list(1),
		Ret:    1,
		Ins: []api.Ins{
			ins(api.OpAdd, 4, 6),
			number(11), // nowhere
			number(12), // in a block that is not reached
			ins(api.OpMul, 0, 4),
			{Op: api.OpParam, Type: 1, N: 3},
			{}, // nothing
			number(16),
			{Op: api.OpCall, Type: 1, Args: list(3, 0), To: 6},
		},
		Blocks: []api.Block{
			block(Jump(4), nil, list(6, 4)),
			block(Jump(3), list(4), list(3)),
			block(Jump(1), nil, list(2)),
			block(Ret(7), list(1), list(7)),
			block(Jump(1), list(0), list(0)),
		},
	}
	want(t, Compact(f), api.Func{
		Name:   "f",
		Params: list(1),
		Ret:    1,
		Ins: []api.Ins{
			number(16),
			{Op: api.OpParam, Type: 1, N: 3},
			ins(api.OpMul, 4, 1),
			{Op: api.OpCall, Type: 1, Args: list(2, 4), To: 6},
			ins(api.OpAdd, 1, 0),
		},
		Blocks: []api.Block{
			block(Jump(3), nil, list(0, 1)),
			block(Jump(2), list(3), list(2)),
			block(Ret(3), list(1), list(3)),
			block(Jump(1), list(0), list(4)),
		},
	})
}

// Promise 7.1: with Preds that are gone go the Args of OpPhi, and of nothing else.
func TestCompactOfPreds(t *testing.T) {
	f := api.Func{
		Ins: []api.Ins{
			number(0),
			ins(api.OpPhi, 0, 3, 0, 2, 4),
			ins(api.OpAdd, 1, 0, 1, 0, 1),
			number(3), // in a block that is not reached
			ins(api.OpPhi, 0, 3, 0),
		},
		Blocks: []api.Block{
			block(Jump(2), nil, list(0)),
			block(Jump(2), list(1), list(3)),
			block(Branch(2, 2, 4), list(7, 1, 0, 2, -1), list(1, 4, 2)),
			block(Jump(2), list(1), nil),
			block(Ret(4), list(2, 3), nil),
		},
	}
	want(t, Compact(f), api.Func{
		Ins: []api.Ins{
			number(0),
			ins(api.OpPhi, 0, 3),
			ins(api.OpPhi, 0),
			ins(api.OpAdd, 1, 0, 1, 0, 1),
		},
		Blocks: []api.Block{
			block(Jump(1), nil, list(0)),
			block(Branch(3, 1, 2), list(0, 1), list(1, 2, 3)),
			block(Ret(2), list(1), nil),
		},
	})
}

// Promise 7.1: what Args and ends name, and is not there, is -1.
func TestCompactOfWhatIsNotThere(t *testing.T) {
	f := api.Func{
		Ins: []api.Ins{ins(api.OpAdd, 0, 1, 2, 9, -1, math.MaxInt, math.MinInt), number(1), number(2)},
		Blocks: []api.Block{
			block(api.Term{Kind: api.TermBranch, Arg: 1, To: list(1, 7)}, nil, list(0, 3, -1, math.MaxInt)),
			block(api.Term{Kind: api.TermBranch, Arg: 50, To: list(-1, 0)}, nil, nil),
			block(Ret(0), nil, list(2)),
		},
	}
	want(t, Compact(f), api.Func{
		Ins: []api.Ins{ins(api.OpAdd, 0, -1, -1, -1, -1, -1, -1)},
		Blocks: []api.Block{
			block(api.Term{Kind: api.TermBranch, Arg: -1, To: list(1, -1)}, nil, list(0)),
			block(api.Term{Kind: api.TermBranch, Arg: -1, To: list(-1, 0)}, nil, nil),
		},
	})
}

// Promise 7.1: a block without an end stays without one.
func TestCompactOfNoEnd(t *testing.T) {
	f := api.Func{Ins: []api.Ins{number(1)}, Blocks: make([]api.Block, 2)}
	want(t, Compact(f), api.Func{Blocks: make([]api.Block, 1)})
	f.Blocks[0].Term = Jump(1)
	want(t, Compact(f), api.Func{Blocks: f.Blocks})
}

// Promise 7.1: of an instruction that stands twice the last number counts.
func TestCompactOfWhatStandsTwice(t *testing.T) {
	f := api.Func{
		Ins:    []api.Ins{number(5), ins(api.OpNeg, 0)},
		Blocks: []api.Block{block(Jump(1), nil, list(0, 1, 0)), block(Ret(0), list(0), list(1, 0))},
	}
	want(t, Compact(f), api.Func{
		Ins:    []api.Ins{number(5), ins(api.OpNeg, 4), number(5), ins(api.OpNeg, 4), number(5)},
		Blocks: []api.Block{block(Jump(1), nil, list(0, 1, 2)), block(Ret(4), list(0), list(3, 4))},
	})
}

// Rule 2: what comes of it is its own.
func TestCompactIsOwn(t *testing.T) {
	f := counts()
	got := Compact(f)
	if !apart(&got) {
		t.Error("lists that share")
	}
	spoil(&got)
	want(t, f, counts())
}

// A function of as many blocks as there may be, one behind the other, takes no room that grows with how far it goes.
func TestCompactOfLongWays(t *testing.T) {
	f := api.Func{Blocks: make([]api.Block, api.MostBlocks)}
	for b := range f.Blocks {
		f.Blocks[b] = block(Jump(b+1), list(b-1), nil)
	}
	f.Blocks[0].Preds = nil
	f.Blocks[len(f.Blocks)-1].Term = Ret(-1)
	want(t, Compact(f), f)
}

// secondCompact is the chapter's words read once more: what is left is told by sets, and each name is looked up by itself.
func secondCompact(f api.Func) api.Func {
	left := map[int]bool{}
	if len(f.Blocks) > 0 {
		left[0] = true
	}
	for n := -1; n != len(left); {
		n = len(left)
		for b, k := range f.Blocks {
			for _, to := range k.Term.To {
				if left[b] && to >= 0 && to < len(f.Blocks) {
					left[to] = true
				}
			}
		}
	}
	blocks, places := map[int]int{}, map[int]int{}
	var order [][2]int // of each new instruction: its old number, and its old block
	for b, k := range f.Blocks {
		if left[b] {
			blocks[b] = len(blocks)
			for _, id := range k.List {
				if id >= 0 && id < len(f.Ins) {
					places[id] = len(order)
					order = append(order, [2]int{id, b})
				}
			}
		}
	}
	name := func(m map[int]int, old int) int {
		if n, ok := m[old]; ok {
			return n
		}
		return -1
	}
	out := api.Func{Name: f.Name, Params: f.Params, Ret: f.Ret, Blocks: make([]api.Block, len(blocks))}
	for b, n := range blocks {
		k := &out.Blocks[n]
		for _, p := range f.Blocks[b].Preds {
			if left[p] {
				k.Preds = append(k.Preds, blocks[p])
			}
		}
		k.Term = f.Blocks[b].Term
		k.Term.To = nil
		for _, to := range f.Blocks[b].Term.To {
			k.Term.To = append(k.Term.To, name(blocks, to))
		}
		if k.Term.Kind != api.TermNone {
			k.Term.Arg = name(places, k.Term.Arg)
		}
	}
	for i, o := range order {
		x, k := f.Ins[o[0]], f.Blocks[o[1]]
		var args []int
		for at, a := range x.Args {
			if x.Op != api.OpPhi || at >= len(k.Preds) || left[k.Preds[at]] {
				args = append(args, name(places, a))
			}
		}
		x.Args = args
		out.Ins = append(out.Ins, x)
		n := blocks[o[1]]
		out.Blocks[n].List = append(out.Blocks[n].List, i)
	}
	return out
}

// chance makes a function by chance, of which nothing need be right.
func chance(r *rand.Rand) api.Func {
	blocks, many := r.Intn(8), r.Intn(12)
	some := func(most, below int) []int {
		var l []int
		for range r.Intn(most + 1) {
			l = append(l, r.Intn(below+2)-1)
		}
		return l
	}
	f := api.Func{Name: "chance", Params: some(3, 5), Ret: r.Intn(5)}
	for range many {
		x := api.Ins{Op: r.Intn(40), Type: r.Intn(5), Args: some(4, many), N: int64(r.Intn(9)), To: r.Intn(3)}
		if r.Intn(3) == 0 {
			x.Op = api.OpPhi
		}
		f.Ins = append(f.Ins, x)
	}
	for range blocks {
		f.Blocks = append(f.Blocks, block(api.Term{Kind: r.Intn(4), Arg: r.Intn(many+2) - 1, To: some(2, blocks)}, some(4, blocks), some(5, many)))
	}
	return f
}

// Promise 7.1: of any function the same comes as by the second reading; once is as good as twice.
func TestCompactByChance(t *testing.T) {
	r := rand.New(rand.NewSource(7))
	for range 5000 {
		f := chance(r)
		before, got := Clone(f), Compact(f)
		if !equal(got, secondCompact(f)) {
			t.Fatalf("%s\n%s\n%s", Print(f), Print(got), Print(secondCompact(f)))
		}
		if !equal(f, before) {
			t.Fatalf("changed: %s\n%s", Print(before), Print(f))
		}
		if again := Compact(got); !equal(again, got) {
			t.Fatalf("again: %s\n%s", Print(got), Print(again))
		}
		if !Same(got, Clone(got)) || Size(api.Prog{Funcs: []api.Func{got}}) != len(got.Ins)+len(got.Blocks) {
			t.Fatalf("%s", Print(got))
		}
	}
}
