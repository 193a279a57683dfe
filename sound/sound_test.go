package sound

import (
	"math"
	"reflect"
	"slices"
	"testing"

	"distaff/api"
)

// Short ways to make functions.

func list(l ...int) []int { return l }

func ins(op, is int, args ...int) api.Ins { return api.Ins{Op: op, Type: is, Args: args} }

func number(n int64) api.Ins { return api.Ins{Op: api.OpConst, Type: api.TypeInt, N: n} }

func param(is int, n int64) api.Ins { return api.Ins{Op: api.OpParam, Type: is, N: n} }

func call(to, is int, args ...int) api.Ins {
	return api.Ins{Op: api.OpCall, Type: is, Args: args, To: to}
}

func block(t api.Term, preds, l []int) api.Block { return api.Block{List: l, Preds: preds, Term: t} }

func jump(to int) api.Term { return api.Term{Kind: api.TermJump, Arg: -1, To: list(to)} }

func branch(c, yes, no int) api.Term {
	return api.Term{Kind: api.TermBranch, Arg: c, To: list(yes, no)}
}

func ret(v int) api.Term { return api.Term{Kind: api.TermRet, Arg: v} }

// counts is a loop with a choice in it: 0 to 1, 1 to 2 and 5, 2 to 3 and 4, 3 to 4, 4 to 1.
func counts() api.Func {
	return api.Func{
		Name:   "counts",
		Params: list(api.TypeInt, api.TypeBool, api.TypeArr),
		Ret:    api.TypeInt,
		Ins: []api.Ins{
			param(api.TypeInt, 0),
			param(api.TypeBool, 1),
			param(api.TypeArr, 2),
			number(0),
			ins(api.OpPhi, api.TypeInt, 3, 9),
			ins(api.OpPhi, api.TypeBool, 1, 10),
			ins(api.OpLt, api.TypeBool, 4, 0),
			ins(api.OpPrint, api.TypeVoid, 5),
			number(1),
			ins(api.OpAdd, api.TypeInt, 4, 8),
			ins(api.OpFlip, api.TypeBool, 5),
			{},
			ins(api.OpStore, api.TypeVoid, 2, 4, 3),
		},
		Blocks: []api.Block{
			block(jump(1), nil, list(0, 1, 2, 3)),
			block(branch(6, 2, 5), list(0, 4), list(4, 5, 6)),
			block(branch(5, 3, 4), list(1), list(7)),
			block(jump(4), list(2), list(12)),
			block(jump(1), list(2, 3), list(8, 9, 10)),
			block(ret(4), list(1), nil),
		},
	}
}

// whole is a sound program: counts, a main that calls both others, and nothing, which comes to nothing.
func whole() api.Prog {
	main := api.Func{
		Name: "main",
		Ret:  api.TypeInt,
		Ins: []api.Ins{
			ins(api.OpInput, api.TypeInt),
			{Op: api.OpConst, Type: api.TypeBool, N: 1},
			ins(api.OpNew, api.TypeArr, 0),
			call(0, api.TypeInt, 0, 1, 2),
			call(2, api.TypeVoid),
		},
		Blocks: []api.Block{block(ret(3), nil, list(0, 1, 4, 2, 3))},
	}
	nothing := api.Func{
		Name:   "nothing",
		Ins:    []api.Ins{ins(api.OpInput, api.TypeInt), ins(api.OpPrint, api.TypeVoid, 0)},
		Blocks: []api.Block{block(ret(-1), nil, list(0, 1))},
	}
	return api.Prog{Funcs: []api.Func{counts(), main, nothing}, Main: 1}
}

// outside is numbers that nothing has.
var outside = []int{-1, -2, math.MinInt, math.MaxInt, 1 << 32, 1 << 16, 1000}

// bend is what is done to one function of a program.
type bend struct {
	name string
	n    int
	do   func(f *api.Func)
}

// told checks that each bend alone makes its function, and so the program, what is told of it.
func told(t *testing.T, why int, bends []bend) {
	t.Helper()
	for _, b := range bends {
		p := whole()
		b.do(&p.Funcs[b.n])
		if got := Func(p, b.n); got != why {
			t.Errorf("%s: %d, not %d", b.name, got, why)
		}
		at := b.n
		if why == api.FlawNone {
			at = 0
		}
		if got, n := Prog(p); got != why || n != at {
			t.Errorf("%s: the program is %d at %d, not %d at %d", b.name, got, n, why, at)
		}
	}
}

// Promise 10.1: the numbers of flaws are those of the chapter.
func TestNumbersOfFlaws(t *testing.T) {
	got := list(api.FlawNone, api.FlawShape, api.FlawPreds, api.FlawList, api.FlawReach, api.FlawPhi, api.FlawType, api.FlawDom, api.FlawProg)
	if !slices.Equal(got, list(0, 1, 2, 3, 4, 5, 6, 7, 8)) {
		t.Error(got)
	}
}

// The chapter's example.
func TestNoBlocks(t *testing.T) {
	for _, f := range []api.Func{{}, {Name: "f", Ret: api.TypeInt, Ins: []api.Ins{number(1)}}, {Blocks: []api.Block{}}} {
		if got := Func(api.Prog{Funcs: []api.Func{f}}, 0); got != 1 {
			t.Error(f, got)
		}
	}
}

// Promise 10.1: what is as it may be is sound.
func TestSound(t *testing.T) {
	told(t, api.FlawNone, []bend{
		{"as it is", 0, func(f *api.Func) {}},
		{"Preds in another order", 0, func(f *api.Func) { f.Blocks[4].Preds = list(3, 2) }},
		{"Preds in another order, with their Args", 0, func(f *api.Func) {
			f.Blocks[1].Preds, f.Ins[4].Args, f.Ins[5].Args = list(4, 0), list(9, 3), list(10, 1)
		}},
		{"no name", 0, func(f *api.Func) { f.Name = "" }},
		{"a name that another one has", 0, func(f *api.Func) { f.Name = "main" }},
		{"empty lists", 0, func(f *api.Func) {
			f.Blocks[0].Preds, f.Blocks[5].List, f.Blocks[5].Term.To, f.Ins[0].Args = list(), list(), list(), list()
		}},
		{"an OpPhi that is itself, too", 0, func(f *api.Func) { f.Ins[4].Args = list(3, 4) }},
		{"OpPhi that change places", 0, func(f *api.Func) {
			f.Ins[10] = ins(api.OpPhi, api.TypeBool, 5, 1)
			f.Blocks[1].List, f.Blocks[4].List, f.Ins[5].Args[1], f.Ins[10].Args = list(4, 5, 10, 6), list(8, 9), 10, list(1, 5)
		}},
		{"an OpPhi of one way", 0, func(f *api.Func) {
			f.Ins[11] = ins(api.OpPhi, api.TypeInt, 4)
			f.Blocks[5].List, f.Blocks[5].Term.Arg = list(11), 11
		}},
		{"arguments behind others, twice", 0, func(f *api.Func) {
			f.Ins[11] = param(api.TypeInt, 0)
			f.Blocks[0].List = list(3, 11, 2, 0, 1)
		}},
		{"what is asked is not used", 0, func(f *api.Func) { f.Ins[5].Args = list(1, 1) }},
		{"nothing is asked of what is OpNone", 0, func(f *api.Func) {
			f.Ins[11] = api.Ins{Type: 9, Args: list(-1, 99), N: 5, To: -3}
		}},
		{"a block that goes round itself", 0, func(f *api.Func) {
			f.Blocks[3].Term, f.Blocks[3].Preds = branch(5, 4, 3), list(2, 3)
		}},
		{"returns at two ends", 0, func(f *api.Func) {
			f.Blocks[3].Term, f.Blocks[4].Preds = ret(0), list(2)
		}},
		{"no end that returns", 0, func(f *api.Func) {
			f.Blocks[5].Term = jump(5)
			f.Blocks[5].Preds = list(1, 5)
		}},
		{"calls itself, and main", 0, func(f *api.Func) {
			f.Ins[8], f.Ins[11] = call(1, api.TypeInt), call(0, api.TypeInt, 8, 5, 2)
			f.Blocks[4].List = list(8, 9, 10, 11)
		}},
		{"blocks in another order", 0, func(f *api.Func) {
			k := f.Blocks
			f.Blocks = []api.Block{k[0], k[5], k[4], k[3], k[2], k[1]}
			for b := range f.Blocks {
				for _, l := range [][]int{f.Blocks[b].Preds, f.Blocks[b].Term.To} {
					for i, x := range l {
						l[i] = list(0, 5, 4, 3, 2, 1)[x]
					}
				}
			}
		}},
		{"no instructions", 2, func(f *api.Func) { f.Ins, f.Blocks[0].List = nil, nil }},
	})
}

// Promise 10.1: FlawShape.
func TestShape(t *testing.T) {
	end := func(b int, k api.Term) func(f *api.Func) { return func(f *api.Func) { f.Blocks[b].Term = k } }
	bends := []bend{
		{"no blocks", 0, func(f *api.Func) { f.Blocks = nil }},
		{"no end", 0, end(3, api.Term{})},
		{"no end, but ways", 0, end(3, api.Term{Arg: -1, To: list(4)})},
		{"no end of a block that is not reached", 0, func(f *api.Func) { f.Blocks = append(f.Blocks, api.Block{}) }},
		{"a jump to none", 0, end(3, api.Term{Kind: api.TermJump, Arg: -1})},
		{"a jump to two", 0, end(3, api.Term{Kind: api.TermJump, Arg: -1, To: list(4, 5)})},
		{"a jump to one twice", 0, end(3, api.Term{Kind: api.TermJump, Arg: -1, To: list(4, 4)})},
		{"a branch to none", 0, end(2, api.Term{Kind: api.TermBranch, Arg: 5})},
		{"a branch to one", 0, end(2, api.Term{Kind: api.TermBranch, Arg: 5, To: list(4)})},
		{"a branch to three", 0, end(2, api.Term{Kind: api.TermBranch, Arg: 5, To: list(3, 4, 5)})},
		{"a branch to one twice", 0, end(2, branch(5, 4, 4))},
		{"a return to one", 0, end(5, api.Term{Kind: api.TermRet, Arg: 4, To: list(1)})},
		{"to the first block", 0, end(3, jump(0))},
		{"yes to the first block", 0, end(2, branch(5, 0, 4))},
		{"no to the first block", 0, end(2, branch(5, 3, 0))},
		{"the first block to itself", 2, end(0, jump(0))},
		{"a jump by the first instruction", 0, end(3, api.Term{Kind: api.TermJump, Arg: 0, To: list(4)})},
		{"a jump by a truth", 0, end(3, api.Term{Kind: api.TermJump, Arg: 5, To: list(4)})},
		{"a jump by -2", 0, end(3, api.Term{Kind: api.TermJump, Arg: -2, To: list(4)})},
		{"the first number that is none, of a branch", 0, end(2, branch(13, 3, 4))},
		{"the first number that is none, of a return", 0, end(5, ret(13))},
		{"the first number that is none, of a jump", 0, end(3, jump(6))},
		{"nothing is returned where nothing comes of it", 2, end(0, ret(0))},
		{"-2 is returned", 2, end(0, ret(-2))},
		{"a number of a function without any", 0, func(f *api.Func) { f.Ins, f.Blocks = nil, []api.Block{block(ret(0), nil, nil)} }},
	}
	for _, kind := range list(-1, 4, 5, math.MinInt, math.MaxInt, 1<<32+api.TermJump, 1<<8+api.TermJump) {
		bends = append(bends, bend{"another kind", 0, func(f *api.Func) { f.Blocks[3].Term.Kind = kind }})
	}
	for _, x := range outside {
		bends = append(bends,
			bend{"a jump to what is not there", 0, end(3, jump(x))},
			bend{"yes to what is not there", 0, end(2, branch(5, x, 4))},
			bend{"no to what is not there", 0, end(2, branch(5, 3, x))},
			bend{"a branch by what is not there", 0, end(2, branch(x, 3, 4))},
			bend{"what is not there is returned", 0, end(5, ret(x))},
		)
	}
	told(t, api.FlawShape, bends)
}

// Promise 10.1: FlawPreds.
func TestPreds(t *testing.T) {
	preds := func(b int, l ...int) func(f *api.Func) { return func(f *api.Func) { f.Blocks[b].Preds = l } }
	bends := []bend{
		{"none", 0, preds(4)},
		{"the first one alone", 0, preds(4, 2)},
		{"the other one alone", 0, preds(4, 3)},
		{"one twice", 0, preds(4, 2, 3, 2)},
		{"one twice in the place of the other", 0, preds(4, 2, 2)},
		{"one that goes elsewhere", 0, preds(4, 2, 1)},
		{"one more that goes elsewhere", 0, preds(4, 2, 3, 5)},
		{"itself", 0, preds(4, 2, 3, 4)},
		{"the first block is come to", 0, preds(0, 0)},
		{"the first block is come to from another one", 0, preds(0, 4)},
		{"the one that it goes to", 0, preds(5, 1, 1)},
		{"a block that is not reached is not told", 0, func(f *api.Func) { f.Blocks = append(f.Blocks, block(jump(5), nil, nil)) }},
		{"a block that is not reached tells another one", 0, func(f *api.Func) { f.Blocks = append(f.Blocks, block(ret(0), list(1), nil)) }},
		{"Preds of blocks change places", 0, func(f *api.Func) {
			f.Blocks[2].Preds, f.Blocks[3].Preds = f.Blocks[3].Preds, f.Blocks[2].Preds
		}},
	}
	for _, x := range append(outside, 6) {
		bends = append(bends, bend{"what is not there", 0, preds(4, 2, x)}, bend{"what is not there, too", 0, preds(4, 2, 3, x)}, bend{"what is not there alone", 2, preds(0, x)})
	}
	told(t, api.FlawPreds, bends)
}

// Promise 10.1: FlawList.
func TestList(t *testing.T) {
	in := func(b int, l ...int) func(f *api.Func) { return func(f *api.Func) { f.Blocks[b].List = l } }
	bends := []bend{
		{"twice in a block", 0, in(4, 8, 9, 9, 10)},
		{"twice, at both ends", 0, in(4, 8, 9, 10, 8)},
		{"in two blocks", 0, in(5, 12)},
		{"in two blocks, in the first one, too", 0, in(5, 0)},
		{"in none", 0, in(4, 8, 10)},
		{"one in none, another one twice", 0, in(4, 8, 10, 10)},
		{"nothing stands there", 0, in(4)},
		{"OpNone in a list", 0, in(5, 11)},
		{"what was there is OpNone", 0, func(f *api.Func) { f.Ins[7] = api.Ins{} }},
		{"what was there is OpNone, with all else of it", 0, func(f *api.Func) { f.Ins[7].Op = api.OpNone }},
		{"the last one in none", 2, in(0, 0)},
		{"one more in none", 2, func(f *api.Func) { f.Ins = append(f.Ins, number(1)) }},
		{"the first number that is none", 0, in(5, 13)},
	}
	for _, x := range outside {
		bends = append(bends, bend{"what is not there", 0, in(5, x)}, bend{"what is not there, in the place of one", 2, in(0, 0, x)})
	}
	for _, op := range list(-1, math.MinInt, math.MaxInt, 37) {
		bends = append(bends, bend{"no operation, in none", 0, func(f *api.Func) { f.Ins[11].Op = op }})
	}
	told(t, api.FlawList, bends)
}

// Promise 10.1: FlawReach.
func TestReach(t *testing.T) {
	more := func(k ...api.Block) func(f *api.Func) { return func(f *api.Func) { f.Blocks = append(f.Blocks, k...) } }
	told(t, api.FlawReach, []bend{
		{"one more", 0, more(block(ret(0), nil, nil))},
		{"one more of a function of one", 2, more(block(ret(-1), nil, nil))},
		{"one that goes round itself", 0, more(block(jump(6), list(6), nil))},
		{"two that go round each other", 0, more(block(jump(7), list(7), nil), block(jump(6), list(6), nil))},
		{"one that goes to one that is reached", 0, func(f *api.Func) {
			f.Blocks = append(f.Blocks, block(jump(5), nil, nil))
			f.Blocks[5].Preds = list(1, 6)
		}},
		{"one in the middle", 0, func(f *api.Func) {
			f.Blocks[2].Term = jump(4)
			f.Blocks[3].Preds = nil
		}},
		{"all but the first one", 0, func(f *api.Func) {
			f.Blocks[0].Term = ret(0)
			f.Blocks[1].Preds = list(4)
		}},
	})
}

// Promise 10.1: FlawPhi.
func TestPhi(t *testing.T) {
	bends := []bend{
		{"more Args", 0, func(f *api.Func) { f.Ins[4].Args = list(3, 9, 9) }},
		{"fewer Args", 0, func(f *api.Func) { f.Ins[4].Args = list(3) }},
		{"no Args", 0, func(f *api.Func) { f.Ins[4].Args = nil }},
		{"Args of the second one", 0, func(f *api.Func) { f.Ins[5].Args = list(1) }},
		{"more ways", 0, func(f *api.Func) {
			f.Blocks[5].Term, f.Blocks[5].Preds, f.Blocks[1].Preds = jump(1), list(1), list(0, 4, 5)
		}},
		{"behind another one", 0, func(f *api.Func) { f.Blocks[1].List = list(4, 6, 5) }},
		{"behind another one, ahead of all others", 0, func(f *api.Func) { f.Blocks[1].List = list(6, 4, 5) }},
		{"behind another one of one way", 0, func(f *api.Func) {
			f.Ins[11] = ins(api.OpPhi, api.TypeInt, 4)
			f.Blocks[3].List = list(12, 11)
		}},
		{"in the first block", 0, func(f *api.Func) { f.Ins[3] = ins(api.OpPhi, api.TypeInt) }},
		{"in the first block, first", 0, func(f *api.Func) { f.Ins[0] = ins(api.OpPhi, api.TypeInt) }},
		{"in the first block, with Args", 0, func(f *api.Func) { f.Ins[0] = ins(api.OpPhi, api.TypeInt, 0) }},
		{"an argument at a head", 0, func(f *api.Func) { f.Ins[6] = param(api.TypeBool, 1) }},
		{"an argument alone in its block", 0, func(f *api.Func) { f.Ins[12] = param(api.TypeInt, 0) }},
	}
	for _, op := range list(-1, math.MinInt, math.MaxInt, 37, 80, 1<<32+api.OpPrint, 1<<8+api.OpPrint, 1<<32) {
		bends = append(bends, bend{"no operation", 0, func(f *api.Func) { f.Ins[7].Op = op }}, bend{"no operation, first", 0, func(f *api.Func) { f.Ins[0].Op = op }})
	}
	told(t, api.FlawPhi, bends)
}

// Promise 10.1: FlawDom.
func TestDom(t *testing.T) {
	args := func(id int, l ...int) func(f *api.Func) { return func(f *api.Func) { f.Ins[id].Args = l } }
	end := func(b, arg int) func(f *api.Func) { return func(f *api.Func) { f.Blocks[b].Term.Arg = arg } }
	told(t, api.FlawDom, []bend{
		{"itself", 0, args(9, 9, 8)},
		{"one behind it", 0, func(f *api.Func) { f.Blocks[4].List = list(9, 8, 10) }},
		{"one behind it, in the first block", 1, func(f *api.Func) { f.Blocks[0].List = list(1, 4, 2, 0, 3) }},
		{"one in a block that it stands over", 0, args(6, 4, 9)},
		{"one on one of two ways", 0, func(f *api.Func) { f.Ins[12], f.Ins[9].Args = number(1), list(12, 8) }},
		{"one of the block that goes back", 0, args(7, 10)},
		{"one in the loop, behind the loop", 0, func(f *api.Func) {
			f.Ins[11] = ins(api.OpPrint, api.TypeVoid, 8)
			f.Blocks[5].List = list(11)
		}},
		{"an OpPhi by the wrong way", 0, args(4, 9, 9)},
		{"an OpPhi by both wrong ways", 0, args(4, 9, 3)},
		{"an OpPhi of itself, on the way in", 0, args(4, 4, 9)},
		{"an OpPhi of its neighbour, on the way in", 0, args(5, 5, 10)},
		{"an OpPhi of what is behind it in its block, on the way in", 0, args(5, 6, 6)},
		{"an OpPhi of one on one of two ways", 0, func(f *api.Func) { f.Ins[12], f.Ins[4].Args = number(1), list(3, 12) }},
		{"Preds in another order than the Args", 0, func(f *api.Func) { f.Blocks[1].Preds = list(4, 0) }},
		{"a branch by one of two ways", 0, func(f *api.Func) {
			f.Ins[12] = ins(api.OpFlip, api.TypeBool, 5)
			f.Blocks[4].Term, f.Blocks[5].Preds = branch(12, 1, 5), list(1, 4)
		}},
		{"a branch by one of a block that it stands over", 0, end(1, 10)},
		{"a branch in front of what it goes by", 0, end(2, 10)},
		{"what is in the loop is returned", 0, end(5, 9)},
		{"what was on one of two ways is returned", 0, func(f *api.Func) {
			f.Ins[12] = number(1)
			f.Blocks[5].Term.Arg = 12
		}},
	})
	// What an OpPhi uses need not stand over the OpPhi: over the way to it is enough.
	told(t, api.FlawNone, []bend{
		{"of what is behind it in its block, on the way back", 0, args(5, 1, 6)},
		{"of one that is done on that way alone", 0, func(f *api.Func) {
			f.Ins[12], f.Ins[11] = number(1), ins(api.OpPhi, api.TypeInt, 3, 12)
			f.Blocks[4].List = list(11, 8, 9, 10)
		}},
		{"one that goes by what stands in it", 0, func(f *api.Func) { f.Blocks[4].Term, f.Blocks[5].Preds = branch(10, 1, 5), list(1, 4) }},
	})
}

// Promise 10.1: of several flaws the first one of the chapter is told.
func TestOrderOfFlaws(t *testing.T) {
	plants := []func(f *api.Func){
		func(f *api.Func) { f.Blocks[5].Term.Kind = api.TermNone },
		func(f *api.Func) { f.Blocks[4].Preds = list(3, 3) },
		func(f *api.Func) { f.Blocks[3].List = list(12, 99) },
		func(f *api.Func) { f.Blocks = append(f.Blocks, block(ret(0), nil, nil)) },
		func(f *api.Func) { f.Ins[4].Args = list(3, 9, 9) },
		func(f *api.Func) { f.Ins[12].N = 1 },
		func(f *api.Func) { f.Ins[6].Args = list(9, 0) },
	}
	for set := range 1 << len(plants) {
		p, want := whole(), api.FlawNone
		for i := range plants {
			if set>>i&1 != 0 {
				plants[i](&p.Funcs[0])
				if want == api.FlawNone {
					want = i + 1
				}
			}
		}
		if got := Func(p, 0); got != want {
			t.Errorf("%b: %d, not %d", set, got, want)
		}
		if got, n := Prog(p); got != want || n != 0 {
			t.Errorf("%b: %d at %d, not %d", set, got, n, want)
		}
	}
}

// Promise 10.1: of a function that is not there FlawProg is told, of others nothing that is of the whole program.
func TestFuncNotThere(t *testing.T) {
	p := whole()
	for _, n := range append(outside, 3) {
		if got := Func(p, n); got != api.FlawProg {
			t.Error(n, got)
		}
		if got := Func(api.Prog{}, n); got != api.FlawProg {
			t.Error(n, got)
		}
	}
	if got := Func(api.Prog{}, 0); got != api.FlawProg {
		t.Error(got)
	}
	for _, main := range outside {
		p.Main = main
		for n := range p.Funcs {
			if got := Func(p, n); got != api.FlawNone {
				t.Error(main, n, got)
			}
		}
	}
	many := api.Prog{Funcs: slices.Repeat(whole().Funcs[2:], api.MostFns+2)}
	if got := Func(many, api.MostFns+1); got != api.FlawNone {
		t.Error(got)
	}
	many.Funcs[5].Params = slices.Repeat(list(api.TypeInt), api.MostParams+1)
	if got := Func(many, 5); got != api.FlawNone {
		t.Error(got)
	}
}

// Promise 10.1: FlawProg, and at which function: 0 of what is of no single one.
func TestProg(t *testing.T) {
	for _, c := range []struct {
		name string
		do   func(p *api.Prog)
		at   int
	}{
		{"no functions", func(p *api.Prog) { p.Funcs = nil }, 0},
		{"no functions, the first one is main", func(p *api.Prog) { p.Funcs, p.Main = nil, 0 }, 0},
		{"one too many", func(p *api.Prog) { p.Funcs = append(p.Funcs, slices.Repeat(p.Funcs[2:], api.MostFns-2)...) }, 0},
		{"main is behind the last one", func(p *api.Prog) { p.Main = 3 }, 0},
		{"main is -1", func(p *api.Prog) { p.Main = -1 }, 0},
		{"main is far", func(p *api.Prog) { p.Main = math.MaxInt }, 0},
		{"main is far below", func(p *api.Prog) { p.Main = math.MinInt }, 0},
		{"main has an argument", func(p *api.Prog) { p.Funcs[1].Params = list(api.TypeInt) }, 0},
		{"main has arguments", func(p *api.Prog) { p.Main = 0 }, 0},
		{"main comes to nothing", func(p *api.Prog) { p.Main = 2 }, 0},
		{"main comes to a truth", func(p *api.Prog) { p.Funcs[1].Ret = api.TypeBool }, 0},
		{"main comes to a row", func(p *api.Prog) { p.Funcs[1].Ret = api.TypeArr }, 0},
		{"main comes to no type", func(p *api.Prog) { p.Funcs[1].Ret = 5 }, 0},
		{"main is wrong, ahead of it another one", func(p *api.Prog) { p.Funcs[1].Ret, p.Funcs[2].Ret = api.TypeBool, 5 }, 0},
		{"there is no main, and another one is wrong", func(p *api.Prog) { p.Main, p.Funcs[2].Ret = 3, 5 }, 0},
		{"the first one has one argument too many", func(p *api.Prog) { p.Funcs[0].Params = slices.Repeat(list(1), 17) }, 0},
		{"the last one has one argument too many", func(p *api.Prog) { p.Funcs[2].Params = slices.Repeat(list(1), 17) }, 2},
		{"a first argument is nothing", func(p *api.Prog) { p.Funcs[2].Params = list(0, 1) }, 2},
		{"a last argument is nothing", func(p *api.Prog) { p.Funcs[2].Params = list(1, 2, 3, 4, 0) }, 2},
		{"an argument is of no type", func(p *api.Prog) { p.Funcs[2].Params = list(5) }, 2},
		{"an argument is of a type below all", func(p *api.Prog) { p.Funcs[2].Params = list(-1) }, 2},
		{"one comes to no type", func(p *api.Prog) { p.Funcs[2].Ret = 5 }, 2},
		{"one comes to a type below all", func(p *api.Prog) { p.Funcs[2].Ret = -1 }, 2},
		{"one comes to a type far above", func(p *api.Prog) { p.Funcs[2].Ret = 1<<32 + 1 }, 2},
		{"two are wrong", func(p *api.Prog) { p.Funcs[0].Ret, p.Funcs[2].Ret = 5, 5 }, 0},
		{"the program is wrong, ahead of it a function", func(p *api.Prog) { p.Funcs[0].Blocks, p.Funcs[2].Ret = nil, 5 }, 2},
		{"there is no main, and no blocks", func(p *api.Prog) { p.Main, p.Funcs[2].Blocks = -1, nil }, 0},
	} {
		p := whole()
		c.do(&p)
		if why, n := Prog(p); why != api.FlawProg || n != c.at {
			t.Errorf("%s: %d at %d, not at %d", c.name, why, n, c.at)
		}
	}
}

// Promise 10.1: as many functions, and as many arguments, as there may be; each type that a function may come to.
func TestProgAtItsLimits(t *testing.T) {
	p := whole()
	p.Funcs = append(p.Funcs, slices.Repeat(p.Funcs[2:], api.MostFns-3)...)
	if why, n := Prog(p); why != api.FlawNone || n != 0 {
		t.Error(why, n)
	}
	last := &p.Funcs[api.MostFns-1]
	last.Params = slices.Repeat(list(1, 2, 3, 4), 4)
	if why, n := Prog(p); why != api.FlawNone || n != 0 {
		t.Error(why, n)
	}
	for is := 1; is <= 4; is++ {
		*last = api.Func{Params: list(is), Ret: is, Ins: []api.Ins{param(is, 0)}, Blocks: []api.Block{block(ret(0), nil, list(0))}}
		if why, n := Prog(p); why != api.FlawNone || n != 0 {
			t.Error(is, why, n)
		}
	}
	p.Funcs[api.MostFns-1].Blocks = nil
	if why, n := Prog(p); why != api.FlawShape || n != 255 {
		t.Error(why, n)
	}
	alone := api.Prog{Funcs: []api.Func{{Ret: 1, Ins: []api.Ins{number(7)}, Blocks: []api.Block{block(ret(0), nil, list(0))}}}}
	if why, n := Prog(alone); why != api.FlawNone || n != 0 {
		t.Error(why, n)
	}
}

// Promise 10.1: the first function that is none is told, whatever those behind it are.
func TestFirstFunctionThatIsNone(t *testing.T) {
	p := whole()
	p.Funcs[1].Blocks[0].Term.Arg = 1 // a truth
	p.Funcs[2].Blocks = nil
	if why, n := Prog(p); why != api.FlawType || n != 1 {
		t.Error(why, n)
	}
	p.Funcs[0].Ins[6].Args = list(9, 0)
	if why, n := Prog(p); why != api.FlawDom || n != 0 {
		t.Error(why, n)
	}
}

// clone is a program of its own.
func clone(p api.Prog) api.Prog {
	q := api.Prog{Main: p.Main}
	for _, f := range p.Funcs {
		f.Params, f.Ins, f.Blocks = slices.Clone(f.Params), slices.Clone(f.Ins), slices.Clone(f.Blocks)
		for i := range f.Ins {
			f.Ins[i].Args = slices.Clone(f.Ins[i].Args)
		}
		for b := range f.Blocks {
			k := &f.Blocks[b]
			k.List, k.Preds, k.Term.To = slices.Clone(k.List), slices.Clone(k.Preds), slices.Clone(k.Term.To)
		}
		q.Funcs = append(q.Funcs, f)
	}
	return q
}

// R2, R4: what is handed in is not changed, and is told the same again.
func TestStays(t *testing.T) {
	p := whole()
	p.Funcs[0].Blocks[1].Preds = append(make([]int, 0, 9), 0, 4)
	p.Funcs[0].Params = append(make([]int, 0, 9), p.Funcs[0].Params...)
	before := clone(p)
	for range 3 {
		why, n := Prog(p)
		if why != api.FlawNone || n != 0 || Func(p, 0) != api.FlawNone {
			t.Error(why, n)
		}
	}
	if !reflect.DeepEqual(p, before) {
		t.Error("changed", p)
	}
}
