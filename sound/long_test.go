package sound

import (
	"testing"

	"distaff/api"
)

// Of what is long it is asked, above all, that it ends soon: what goes over all instructions for each of them would not.

// alone is a program of one function, beside a main.
func alone(f api.Func) api.Prog {
	return api.Prog{Funcs: []api.Func{f, {Ret: api.TypeInt, Ins: []api.Ins{number(7)}, Blocks: []api.Block{block(ret(0), nil, list(0))}}}, Main: 1}
}

// becomes asks whether a function is what is told of it.
func becomes(t *testing.T, f api.Func, want int) {
	t.Helper()
	if got := Func(alone(f), 0); got != want {
		t.Errorf("%d, not %d", got, want)
	}
	if got, n := Prog(alone(f)); got != want || n != 0 {
		t.Errorf("%d at %d, not %d", got, n, want)
	}
}

// R1: a row of as many blocks as there may be, of which the last one uses what the first one made.
func TestLongRow(t *testing.T) {
	f := api.Func{Ret: api.TypeInt}
	for b := range api.MostBlocks {
		f.Ins = append(f.Ins, number(int64(b)), ins(api.OpAdd, api.TypeInt, b, 0))
		f.Blocks = append(f.Blocks, block(jump(b+1), list(b-1), list(2*b, 2*b+1)))
	}
	last := api.MostBlocks - 1
	f.Blocks[0].Preds, f.Blocks[last].Term = nil, ret(0)
	f.Ins[1].Args = list(0, 0)
	becomes(t, f, api.FlawNone)
	f.Ins[1].Args = list(0, 2*last)
	becomes(t, f, api.FlawDom)
	f.Blocks[last].Preds = list(last - 2)
	becomes(t, f, api.FlawPreds)
}

// R1: a block of as many instructions as there may be, each of which uses the one ahead, and the first one.
func TestLongList(t *testing.T) {
	f := api.Func{Ret: api.TypeInt, Ins: []api.Ins{number(1)}, Blocks: []api.Block{block(ret(api.MostIns-1), nil, list(0))}}
	for id := 1; id < api.MostIns; id++ {
		f.Ins = append(f.Ins, ins(api.OpMul, api.TypeInt, id-1, 0))
		f.Blocks[0].List = append(f.Blocks[0].List, id)
	}
	becomes(t, f, api.FlawNone)
	f.Ins[api.MostIns-1].Args[1] = api.MostIns - 1
	becomes(t, f, api.FlawDom)
	f.Ins = append(f.Ins, number(1))
	becomes(t, f, api.FlawList)
}

// R1: many choices, of which each may leave for the last block, where an OpPhi has an Arg for each.
func TestManyPreds(t *testing.T) {
	const many = 1 << 15
	f := api.Func{Ret: api.TypeInt}
	end := api.Block{Term: ret(2 * many), List: list(2 * many)}
	phi := ins(api.OpPhi, api.TypeInt)
	for b := range many {
		f.Ins = append(f.Ins, number(1), ins(api.OpGe, api.TypeBool, 2*b, 0))
		f.Blocks = append(f.Blocks, block(branch(2*b+1, b+1, many), list(b-1), list(2*b, 2*b+1)))
		end.Preds = append(end.Preds, b)
		phi.Args = append(phi.Args, 2*b)
	}
	f.Blocks[0].Preds, f.Blocks[many-1].Term = nil, jump(many)
	f.Ins, f.Blocks = append(f.Ins, phi), append(f.Blocks, end)
	becomes(t, f, api.FlawNone)
	phi.Args[many/2] = many + 2
	becomes(t, f, api.FlawDom)
	phi.Args[many/3] = 1
	becomes(t, f, api.FlawType)
	end.Preds[5] = 6
	becomes(t, f, api.FlawPreds)
}

// R1: many loops, each in the one ahead of it.
func TestLoopsInLoops(t *testing.T) {
	const many = 1 << 14
	f := api.Func{Ret: api.TypeInt, Ins: []api.Ins{number(1), {Op: api.OpConst, Type: api.TypeBool}}}
	f.Blocks = []api.Block{block(jump(1), nil, list(0, 1))}
	// Heads 1 to many, each with an OpPhi of the one ahead and itself; behind them, for each, from the innermost one on, a block that goes back.
	for b := 1; b <= many; b++ {
		f.Ins = append(f.Ins, ins(api.OpPhi, api.TypeInt, b, b+1))
		f.Blocks = append(f.Blocks, block(jump(b+1), list(b-1, 2*many+1-b), list(b+1)))
	}
	f.Ins[2].Args[0] = 0
	for b := many + 1; b <= 2*many; b++ {
		f.Blocks = append(f.Blocks, block(branch(1, 2*many+1-b, b+1), list(b-1), nil))
	}
	f.Blocks = append(f.Blocks, block(ret(many+1), list(2*many), nil))
	becomes(t, f, api.FlawNone)
	f.Ins[2].Args[0] = 3
	becomes(t, f, api.FlawDom)
}
