package fold

import (
	"testing"

	"distaff/api"
	"distaff/ir"
	"distaff/samples"
)

// R1: what is long ends, and soon.

// many is so many instructions as a function may have, a few left.
const many = api.MostIns - 64

// Promise 14.1: a long row of sums, each of the one ahead; told the other way round by its numbers, too.
func TestLongSum(t *testing.T) {
	f := samples.Sums(many)
	fine(t, f)
	g := answer(t, f)
	for id, x := range g.Ins {
		if x.Op != api.OpConst || x.N != int64(id)+1 {
			t.Fatal(id, x)
		}
	}
	// Blocks whose numbers fall on the way: each has one sum.
	const blocks = api.MostBlocks
	f = samples.Falling(blocks)
	fine(t, f)
	g = answer(t, f)
	for b, k := range g.Blocks[1:] {
		if x := g.Ins[k.List[0]]; x.Op != api.OpConst || x.N != int64(blocks-b-1)+1 {
			t.Fatal(b, x)
		}
	}
}

// Promise 14.1: loops that stand within one another, as deep as they may, through which a number is handed on unchanged: each OpPhi is known to be the one outside it only when the one inside it is. Each is used much, too.
func TestDeepLoops(t *testing.T) {
	const deep = api.MostBlocks/2 - 2
	f := api.Func{Name: "main", Ret: api.TypeInt, Ins: []api.Ins{input(), truth(1), ins(api.OpLt, api.TypeBool, 0, 0)}, Blocks: []api.Block{block(ir.Jump(1), nil, list(0, 1, 2))}}
	// Block n, from 1 on, is the head of the n-th loop; block 2 deep - n + 1 is what comes behind it: it goes back to the one outside.
	phiOf := func(n int) int { return n + 2 }
	for n := 1; n <= deep; n++ {
		inner := phiOf(n + 1)
		outer := phiOf(n - 1)
		if n == 1 {
			outer = 0
		}
		if n == deep {
			inner = phiOf(deep + 1)
		}
		f.Ins = append(f.Ins, phi(api.TypeInt, outer, inner))
		f.Blocks = append(f.Blocks, block(ir.Branch(2, n+1, 2*deep-n+2), list(n-1, 2*deep-n+1), list(phiOf(n))))
	}
	// The innermost one chooses itself.
	f.Blocks[deep].Term = ir.Branch(2, deep+1, deep+2)
	f.Ins = append(f.Ins, ins(api.OpSelect, api.TypeInt, 1, phiOf(deep), 0))
	f.Blocks = append(f.Blocks, block(ir.Jump(deep), list(deep), list(phiOf(deep+1))))
	for n := deep; n > 1; n-- {
		f.Blocks = append(f.Blocks, block(ir.Jump(n-1), list(n), nil))
	}
	f.Blocks = append(f.Blocks, block(ir.Ret(phiOf(1)), list(1), nil))
	for id := len(f.Ins); id < many; id++ {
		f.Ins = append(f.Ins, ins(api.OpAdd, api.TypeInt, phiOf(deep), 0))
		f.Blocks[deep+1].List = append(f.Blocks[deep+1].List, id)
	}
	fine(t, f)
	g := answer(t, f)
	for id, x := range g.Ins {
		if x.Op == api.OpPhi || x.Op == api.OpSelect || x.Op == api.OpAdd && (x.Args[0] != 0 || x.Args[1] != 0) {
			t.Fatal(id, x)
		}
	}
}

// Promise 14.1: OpPhi of very many Args, each of which is found out by itself.
func TestWidePhi(t *testing.T) {
	const ways = 1 << 12
	f, made := samples.Ladder(ways, func(int) api.Ins { return ins(api.OpSelect, api.TypeInt, 1, 0, 0) })
	for range 64 {
		f.Blocks[ways].List = append(f.Blocks[ways].List, len(f.Ins))
		f.Ins = append(f.Ins, phi(api.TypeInt, made...))
	}
	f.Blocks[ways].Term.Arg = len(f.Ins) - 1
	fine(t, f)
	if g := answer(t, f); len(g.Ins) != 3 || g.Blocks[ways].Term.Arg != 0 {
		t.Error(len(g.Ins))
	}
}

// Promise 14.1: a loop gone back to from very many blocks, each with one more that its head's OpPhi may be: each is found out only when the one ahead of it is.
func TestManyWaysBack(t *testing.T) {
	const ways = 1 << 13
	// 0 goes to 1, the head, which leaves to 2. The n-th of the others goes back, or on to the next one; it chooses by what the one ahead chose.
	f := api.Func{Name: "main", Ret: api.TypeInt, Ins: []api.Ins{input(), truth(1), ins(api.OpLt, api.TypeBool, 0, 0), phi(api.TypeInt, 0)},
		Blocks: []api.Block{block(ir.Jump(1), nil, list(0, 1, 2)), block(ir.Branch(2, 3, 2), list(0), list(3)), block(ir.Ret(3), list(1), nil)}}
	for n := range ways {
		b, id := n+3, len(f.Ins)
		f.Ins = append(f.Ins, ins(api.OpSelect, api.TypeInt, 1, 3, 0))
		if n > 0 {
			f.Ins[id].Args[1] = id - 1
		}
		k := block(ir.Branch(2, 1, b+1), list(b-1), list(id))
		if n == 0 {
			k.Preds = list(1)
		}
		if n == ways-1 {
			k.Term = ir.Jump(1)
		}
		f.Blocks = append(f.Blocks, k)
		f.Blocks[1].Preds = append(f.Blocks[1].Preds, b)
		f.Ins[3].Args = append(f.Ins[3].Args, id)
	}
	fine(t, f)
	if g := answer(t, f); len(g.Ins) != 3 || g.Blocks[2].Term.Arg != 0 {
		t.Error(len(g.Ins))
	}
}
