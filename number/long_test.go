package number

import (
	"slices"
	"testing"

	"distaff/api"
	"distaff/ir"
	"distaff/samples"
)

// R1: what is long ends, and soon.

// many is so many instructions as a function may have, a few left.
const many = api.MostIns - 64

// Promise 16.1: a long row of sums, each computed twice, of which each is of the one ahead; all but the first one the same; all different.
func TestLongSum(t *testing.T) {
	l := []api.Ins{input()}
	for id := 1; id < many; id += 2 {
		// One is of what goes, the other one of what stays.
		l = append(l, ins(api.OpAdd, api.TypeInt, id-1, 0), ins(api.OpAdd, api.TypeInt, 0, max(0, id-2)))
	}
	f := straight(len(l)-1, l...)
	fine(t, f)
	g := answer(t, f)
	for id, x := range g.Ins {
		if id > 0 && !slices.Equal(x.Args, list(id-1, 0)) && !slices.Equal(x.Args, list(0, id-1)) {
			t.Fatal(id, x)
		}
	}
	if len(g.Ins) != 1+many/2 || g.Blocks[0].Term.Arg != len(g.Ins)-1 {
		t.Error(len(g.Ins))
	}
	f = straight(many, append([]api.Ins{input()}, slices.Repeat([]api.Ins{ins(api.OpMul, api.TypeInt, 0, 0)}, many)...)...)
	fine(t, f)
	if g = answer(t, f); !ir.Same(g, straight(1, input(), ins(api.OpMul, api.TypeInt, 0, 0))) {
		t.Error(len(g.Ins))
	}
	f = samples.Sums(many)
	if g = answer(t, f); !ir.Same(g, f) {
		t.Error(len(g.Ins))
	}
}

// deep is a main of so many blocks, one under the other, whose numbers fall on the way; each has the same sum.
func deep(blocks int) api.Func {
	f := samples.Falling(blocks)
	for id := 1; id < len(f.Ins); id++ {
		f.Ins[id].Args = list(0, 0)
	}
	return f
}

// Promise 16.1: blocks under one another, as many as there may be, whose numbers fall on the way: all compute what the first of them does.
func TestDeep(t *testing.T) {
	f := deep(api.MostBlocks)
	fine(t, f)
	g := answer(t, f)
	if len(g.Ins) != 2 || len(g.Blocks) != api.MostBlocks || g.Blocks[1].Term.Arg != 1 {
		t.Error(len(g.Ins), len(g.Blocks))
	}
	f = samples.Falling(api.MostBlocks)
	if g = answer(t, f); len(g.Ins) != len(f.Ins) {
		t.Error(len(g.Ins))
	}
}

// Promise 16.1: choices one behind the other, which all lead to one block: each computes the same; and each what none over it does, while the last block computes all of it again.
func TestManyWays(t *testing.T) {
	const ways = api.MostBlocks - 1
	sum := ins(api.OpAdd, api.TypeInt, 0, 0)
	f, made := samples.Ladder(ways, func(int) api.Ins { return sum })
	f.Blocks[ways].List = list(len(f.Ins), len(f.Ins)+1)
	f.Ins = append(f.Ins, phi(api.TypeInt, made...), sum)
	fine(t, f)
	g := answer(t, f)
	if len(g.Ins) != 5 || !slices.Equal(g.Ins[4].Args, slices.Repeat(list(3), ways)) {
		t.Error(len(g.Ins))
	}
	f, made = samples.Ladder(ways, func(id int) api.Ins { return number(int64(id)) })
	for _, id := range made {
		f.Blocks[ways].List = append(f.Blocks[ways].List, len(f.Ins))
		f.Ins = append(f.Ins, number(int64(id)))
	}
	// The first one stands over all.
	fine(t, f)
	if g = answer(t, f); len(g.Ins) != len(f.Ins)-1 {
		t.Error(len(g.Ins), len(f.Ins))
	}
}

// Promise 16.1: very many blocks under one, none over another: each computes the same on its own, with much computed over all of them.
func TestManySides(t *testing.T) {
	const ways = api.MostBlocks/2 - 1
	f := main([]api.Ins{input(), ins(api.OpLt, api.TypeBool, 0, 0)})
	// The n-th choice, of block n, goes to a block of its own, which computes and returns.
	for n := range ways {
		k := block(ir.Branch(1, ways+n, n+1), list(n-1), nil)
		if n == 0 {
			k.Preds, k.List = nil, list(0, 1)
		}
		if n == ways-1 {
			k.Term = ir.Jump(ways + n)
		}
		k.List = append(k.List, len(f.Ins))
		f.Ins = append(f.Ins, number(int64(n)))
		f.Blocks = append(f.Blocks, k)
	}
	for n := range ways {
		id := len(f.Ins)
		f.Ins = append(f.Ins, ins(api.OpAdd, api.TypeInt, 0, 0), ins(api.OpNeg, api.TypeInt, id), number(int64(n)))
		f.Blocks = append(f.Blocks, block(ir.Ret(id+1), list(n), list(id, id+1, id+2)))
	}
	fine(t, f)
	g := answer(t, f)
	if len(g.Ins) != 2+ways+2*ways {
		t.Error(len(g.Ins))
	}
	for _, k := range g.Blocks[ways:] {
		if len(k.List) != 2 || k.Term.Arg != k.List[1] || g.Ins[k.List[1]].Args[0] != k.List[0] {
			t.Fatal(k)
		}
	}
}
