package exec

import (
	"runtime"
	"testing"

	"distaff/api"
)

// R1: what is long or deep ends all the same, and soon.

// sinks is a function that calls itself with one less as long as its argument is above 0, then adds what it was to what comes back: the sum of all. A main calls it with n.
func sinks(n int64) api.Prog {
	f := api.Func{Params: list(api.TypeInt), Ret: api.TypeInt,
		Ins: []api.Ins{
			param(api.TypeInt, 0), number(0), number(1),
			ins(api.OpGt, api.TypeBool, 0, 1),
			ins(api.OpSub, api.TypeInt, 0, 2),
			calls(0, api.TypeInt, 4),
			ins(api.OpAdd, api.TypeInt, 5, 0),
		},
		Blocks: []api.Block{
			block(branch(3, 1, 2), nil, list(0, 1, 2, 3)),
			block(ret(6), list(0), list(4, 5, 6)),
			block(ret(1), list(0), nil),
		}}
	main := api.Func{Ret: api.TypeInt, Ins: []api.Ins{number(n), calls(0, api.TypeInt, 0)}, Blocks: []api.Block{block(ret(1), nil, list(0, 1))}}
	return api.Prog{Funcs: []api.Func{f, main}, Main: 1}
}

// Promise 11.1: what an outer call has come to is there behind an inner one of the same function, however deep.
func TestDeep(t *testing.T) {
	for _, n := range numbers(0, 1, 2, 10, 1<<19) {
		sees(t, sinks(n), nil, plenty, halts(n*(n+1)/2, 3+9*n+6))
	}
	sees(t, sinks(1<<40), nil, 1<<21, spends(1<<21))
}

// A call of a long function takes no more than what it does: else a deep one would take all memory.
func TestDeepInLong(t *testing.T) {
	f := api.Func{Params: list(api.TypeInt), Ret: api.TypeInt,
		Ins: []api.Ins{param(api.TypeInt, 0), number(0), ins(api.OpNe, api.TypeBool, 0, 1), number(-1), ins(api.OpAdd, api.TypeInt, 0, 3), calls(0, api.TypeInt, 4), ins(api.OpAdd, api.TypeInt, 5, 0)}}
	f.Blocks = []api.Block{block(branch(2, 1, 2), nil, list(0, 1, 2)), block(ret(6), list(0), list(3, 4, 5, 6)), block(ret(api.MostIns-1), list(0), nil)}
	for id := len(f.Ins); id < api.MostIns; id++ {
		f.Ins = append(f.Ins, number(int64(id)))
		f.Blocks[2].List = append(f.Blocks[2].List, id)
	}
	const deep = 1 << 17
	main := api.Func{Ret: api.TypeInt, Ins: []api.Ins{number(deep), calls(0, api.TypeInt, 0)}, Blocks: []api.Block{block(ret(1), nil, list(0, 1))}}
	p := api.Prog{Funcs: []api.Func{f, main}, Main: 1}
	sees(t, p, nil, plenty, halts(deep*(deep+1)/2+api.MostIns-1, 3+9*deep+4+api.MostIns-7+1))
}

// Two functions that call each other, and themselves behind that: each keeps what it has.
func TestTurnAbout(t *testing.T) {
	half := func(other int) api.Func {
		return api.Func{Params: list(api.TypeInt), Ret: api.TypeInt,
			Ins: []api.Ins{
				param(api.TypeInt, 0), number(2), ins(api.OpLt, api.TypeBool, 0, 1),
				number(1), ins(api.OpSub, api.TypeInt, 0, 3), ins(api.OpSub, api.TypeInt, 0, 1),
				calls(other, api.TypeInt, 4), calls(1-other, api.TypeInt, 5),
				ins(api.OpAdd, api.TypeInt, 6, 7),
			},
			Blocks: []api.Block{block(branch(2, 1, 2), nil, list(0, 1, 2)), block(ret(0), list(0), nil), block(ret(8), list(0), upTo(3, 9))}}
	}
	main := api.Func{Ret: api.TypeInt, Ins: []api.Ins{number(20), calls(0, api.TypeInt, 0)}, Blocks: []api.Block{block(ret(1), nil, list(0, 1))}}
	// Of n below 2 a call takes 5, else 4 and 7 and what both calls take.
	used := numbers(5, 5)
	for n := 2; n <= 20; n++ {
		used = append(used, 11+used[n-1]+used[n-2])
	}
	sees(t, api.Prog{Funcs: []api.Func{half(1), half(0), main}, Main: 2}, nil, plenty, halts(6765, 3+used[20]))
}

// R1: main may call itself; a call that never ends takes all fuel.
func TestMainAgain(t *testing.T) {
	p := straight(1, number(1), calls(0, api.TypeInt))
	sees(t, p, nil, 1<<22, spends(1<<22))
}

// R1: a block to which very many lead, each with an Arg of its own, is come to in one step.
func TestManyWays(t *testing.T) {
	const many, rounds = 1 << 14, 1 << 14
	// 0 goes to 1, the head, an OpPhi of n and of how many rounds were. It goes through choices: the n-th one leaves for the last block, which goes back to the head.
	f := api.Func{Ret: api.TypeInt, Ins: []api.Ins{number(0), number(1), number(rounds),
		ins(api.OpPhi, api.TypeInt, 0, 5), ins(api.OpLt, api.TypeBool, 3, 2), ins(api.OpAdd, api.TypeInt, 3, 1), {Op: api.OpPhi, Type: api.TypeInt}, show(6)}}
	last := many + 3
	f.Blocks = []api.Block{
		block(jump(1), nil, list(0, 1, 2)),
		block(branch(4, 3, 2), list(0, last), list(3, 4)),
		block(ret(3), list(1), nil),
	}
	end := api.Block{Term: jump(1)}
	for n := range many {
		id := len(f.Ins)
		f.Ins = append(f.Ins, number(int64(n)), ins(api.OpGe, api.TypeBool, id, 0))
		k := block(branch(id+1, last, n+4), list(n+2), list(id, id+1))
		if n == 0 {
			k.Preds = list(1)
		}
		if n == many-1 {
			k.Term = jump(last)
		}
		f.Blocks = append(f.Blocks, k)
		end.Preds = append(end.Preds, n+3)
		f.Ins[6].Args = append(f.Ins[6].Args, id)
	}
	end.List = list(6, 7, 5)
	f.Blocks = append(f.Blocks, end)
	got := Run(api.Prog{Funcs: []api.Func{f}}, nil, plenty)
	if got.End != api.EndHalt || got.Value != rounds || got.Used != 4+4+rounds*(3+3+4) || len(got.Events) != rounds {
		t.Errorf("%d, %d, %d with %d events", got.End, got.Value, got.Used, len(got.Events))
	}
}

// R1: rows that are made over and over and not held take no room.
func TestManyRows(t *testing.T) {
	const rounds = 1 << 14
	p := api.Prog{Funcs: []api.Func{{Ret: api.TypeInt,
		Ins: []api.Ins{number(0), number(1), number(rounds), number(api.MostCells),
			ins(api.OpPhi, api.TypeInt, 0, 7), ins(api.OpLt, api.TypeBool, 4, 2), ins(api.OpNew, api.TypeArr, 3), ins(api.OpAdd, api.TypeInt, 4, 1)},
		Blocks: []api.Block{block(jump(1), nil, upTo(0, 4)), block(branch(5, 2, 3), list(0, 2), list(4, 5)), block(jump(1), list(1), list(6, 7)), block(ret(4), list(1), nil)}}}}
	sees(t, p, nil, 1<<40, halts(rounds, 5+3+1+rounds*(3+3+api.MostCells)))
}

// R1: rounds that make and call the same over and over take no more room than one of them.
func TestRoundsTakeNoRoom(t *testing.T) {
	const rounds = 1 << 18
	less := api.Func{Params: list(api.TypeInt, api.TypeInt), Ret: api.TypeInt,
		Ins:    []api.Ins{param(api.TypeInt, 0), param(api.TypeInt, 1), ins(api.OpSub, api.TypeInt, 0, 1)},
		Blocks: []api.Block{block(ret(2), nil, list(0, 1, 2))}}
	main := api.Func{Ret: api.TypeInt,
		Ins:    []api.Ins{number(rounds), number(0), number(1), ins(api.OpPhi, api.TypeInt, 0, 5), ins(api.OpGt, api.TypeBool, 3, 1), calls(0, api.TypeInt, 3, 2)},
		Blocks: []api.Block{block(jump(1), nil, list(0, 1, 2)), block(branch(4, 2, 3), list(0, 2), list(3, 4)), block(jump(1), list(1), list(5)), block(ret(3), list(1), nil)}}
	var before, behind runtime.MemStats
	runtime.ReadMemStats(&before)
	sees(t, api.Prog{Funcs: []api.Func{less, main}, Main: 1}, nil, plenty, halts(0, 4+3+1+rounds*(3+2+4)))
	runtime.ReadMemStats(&behind)
	if made := behind.TotalAlloc - before.TotalAlloc; made > 1<<20 {
		t.Errorf("%d bytes were taken", made)
	}
}
