package exec

import (
	"reflect"
	"slices"
	"testing"

	"distaff/api"
)

// choice is a main that goes over one of two ways to its last block, where an OpPhi tells which; that block's Preds stand in either order.
func choice(yes int64, turned bool) api.Prog {
	preds, phi := list(1, 2), ins(api.OpPhi, api.TypeInt, 1, 2)
	if turned {
		preds, phi = list(2, 1), ins(api.OpPhi, api.TypeInt, 2, 1)
	}
	return api.Prog{Funcs: []api.Func{{Ret: api.TypeInt, Ins: []api.Ins{truth(yes), number(4), number(5), phi},
		Blocks: []api.Block{block(branch(0, 1, 2), nil, list(0)), block(jump(3), list(0), list(1)), block(jump(3), list(0), list(2)), block(ret(3), preds, list(3))}}}}
}

// Promise 11.1: a branch goes to its first block, if its Arg is not 0, else to its second one; OpPhi is the Arg at the place of the block that was come from.
func TestChoice(t *testing.T) {
	for _, turned := range []bool{false, true} {
		sees(t, choice(1, turned), nil, plenty, halts(4, 6))
		sees(t, choice(0, turned), nil, plenty, halts(5, 6))
		sees(t, choice(0, turned), nil, 5, spends(5))
	}
}

// Promise 11.1: an OpPhi can tell by which of its ways a branch itself went on.
func TestBranchInto(t *testing.T) {
	for n := range int64(2) {
		for _, end := range []api.Term{branch(0, 1, 2), branch(0, 2, 1)} {
			p := api.Prog{Funcs: []api.Func{{Ret: api.TypeInt, Ins: []api.Ins{truth(n), number(4), number(5), ins(api.OpPhi, api.TypeInt, 2, 1)},
				Blocks: []api.Block{block(end, nil, list(0, 1, 2)), block(jump(2), list(0), nil), block(ret(3), list(1, 0), list(3))}}}}
			through := (n == 1) == (end.To[0] == 1)
			if through {
				sees(t, p, nil, plenty, halts(5, 7))
			} else {
				sees(t, p, nil, plenty, halts(4, 6))
			}
		}
	}
}

// turns is a loop of n rounds in which each OpPhi takes what another one was: a, b and c go round. Each round prints all three.
func turns(n int64) api.Prog {
	return api.Prog{Funcs: []api.Func{{Ret: api.TypeInt,
		Ins: []api.Ins{
			number(0), number(1), number(2), number(n),
			ins(api.OpPhi, api.TypeInt, 0, 5),
			ins(api.OpPhi, api.TypeInt, 1, 6),
			ins(api.OpPhi, api.TypeInt, 2, 4),
			ins(api.OpPhi, api.TypeInt, 0, 9),
			ins(api.OpLt, api.TypeBool, 7, 3),
			ins(api.OpAdd, api.TypeInt, 7, 1),
			show(4), show(5), show(6),
		},
		Blocks: []api.Block{
			block(jump(1), nil, list(0, 1, 2, 3)),
			block(branch(8, 2, 3), list(0, 2), list(4, 5, 6, 7, 8)),
			block(jump(1), list(1), list(9, 10, 11, 12)),
			block(ret(7), list(1), nil),
		}}}}
}

// Promise 11.1: all OpPhi of a block take at once what comes over the way, ahead of the block; each takes 1 of fuel.
func TestAtOnce(t *testing.T) {
	sees(t, turns(0), nil, plenty, halts(0, 5+6+1))
	sees(t, turns(1), nil, plenty, halts(1, 5+6*2+5+1, 0, 1, 2))
	sees(t, turns(5), nil, plenty, halts(5, 5+6*6+5*5+1, 0, 1, 2, 1, 2, 0, 2, 0, 1, 0, 1, 2, 1, 2, 0))
}

// An OpPhi may use itself, and one that stands behind it.
func TestItself(t *testing.T) {
	p := api.Prog{Funcs: []api.Func{{Ret: api.TypeInt,
		Ins: []api.Ins{
			number(3), truth(0),
			ins(api.OpPhi, api.TypeInt, 0, 2),
			ins(api.OpPhi, api.TypeBool, 1, 4),
			ins(api.OpFlip, api.TypeBool, 3),
			show(2), show(3),
		},
		Blocks: []api.Block{
			block(jump(1), nil, list(0, 1)),
			block(branch(3, 3, 2), list(0, 2), list(2, 3, 4, 5, 6)),
			block(jump(1), list(1), nil),
			block(ret(2), list(1), nil),
		}}}}
	sees(t, p, nil, plenty, halts(3, 3+6+1+6+1, 3, 0, 3, 1))
}

// Promise 11.1: a loop that does not end takes all fuel.
func TestForever(t *testing.T) {
	p := api.Prog{Funcs: []api.Func{{Ret: api.TypeInt, Ins: []api.Ins{number(1), show(0)},
		Blocks: []api.Block{block(jump(1), nil, list(0)), block(jump(1), list(0, 1), list(1))}}}}
	for fuel := range int64(20) {
		sees(t, p, nil, fuel, spends(fuel, slices.Repeat(numbers(1), int(max(fuel-1, 0))/2)...))
	}
}

// Promise 11.1: a call hands its arguments on in order, and comes to what its function returns; of one that returns nothing the run goes on.
func TestCall(t *testing.T) {
	less := api.Func{Params: list(api.TypeInt, api.TypeInt), Ret: api.TypeInt,
		Ins:    []api.Ins{param(api.TypeInt, 1), param(api.TypeInt, 0), ins(api.OpSub, api.TypeInt, 1, 0)},
		Blocks: []api.Block{block(ret(2), nil, list(0, 1, 2))}}
	prints := api.Func{Params: list(api.TypeBool), Ins: []api.Ins{param(api.TypeBool, 0), show(0)},
		Blocks: []api.Block{block(ret(-1), nil, list(0, 1))}}
	main := api.Func{Ret: api.TypeInt, Ins: []api.Ins{number(9), number(2), truth(1), calls(0, api.TypeInt, 0, 1), calls(1, api.TypeVoid, 2), show(3), calls(0, api.TypeInt, 1, 3)},
		Blocks: []api.Block{block(ret(6), nil, upTo(0, 7))}}
	p := api.Prog{Funcs: []api.Func{less, prints, main}, Main: 2}
	sees(t, p, nil, plenty, halts(-5, 8+4+3+4, 1, 7))
	sees(t, p, nil, 18, spends(18, 1, 7))
}

// Promise 11.1: a call is handed as many arguments as there may be, and those of an outer call are there behind an inner one.
func TestManyArguments(t *testing.T) {
	var f, main api.Func
	f.Ret, main.Ret = api.TypeInt, api.TypeInt
	// Of the first argument above 0 the function calls itself, with all arguments turned but the first, which is 0.
	for n := range api.MostParams {
		f.Params = append(f.Params, api.TypeInt)
		f.Ins = append(f.Ins, number(0))
		main.Ins = append(main.Ins, number(int64(n)+1))
	}
	const zero, first, is = api.MostParams, api.MostParams + 1, api.MostParams + 2
	f.Ins = append(f.Ins, number(0), param(api.TypeInt, 0), ins(api.OpGt, api.TypeBool, first, zero))
	again := calls(0, api.TypeInt, zero)
	for n := api.MostParams - 1; n > 0; n-- {
		again.Args = append(again.Args, n)
	}
	f.Ins = append(f.Ins, again)
	var l []int
	for n := range api.MostParams {
		f.Ins[n] = param(api.TypeInt, int64(n))
		f.Ins = append(f.Ins, show(n))
		l = append(l, is+2+n)
	}
	f.Blocks = []api.Block{
		block(branch(is, 1, 2), nil, append(upTo(0, api.MostParams), zero, first, is)),
		block(jump(2), list(0), list(is+1)),
		block(ret(1), list(0, 1), l),
	}
	main.Ins = append(main.Ins, calls(0, api.TypeInt, upTo(0, api.MostParams)...))
	main.Blocks = []api.Block{block(ret(api.MostParams), nil, upTo(0, api.MostParams+1))}
	events := numbers(0)
	for n := int64(api.MostParams); n > 1; n-- {
		events = append(events, n)
	}
	for n := range int64(api.MostParams) {
		events = append(events, n+1)
	}
	sees(t, api.Prog{Funcs: []api.Func{f, main}, Main: 1}, nil, plenty, halts(2, 18+2*(20+17)+2, events...))
}

// Promise 11.1: rows are things: arguments, OpPhi, OpSelect and what a function returns hand on which ones they are.
func TestRowsAreThings(t *testing.T) {
	// Writes 7 at the first cell, and returns the rows.
	writes := api.Func{Params: list(api.TypeArr), Ret: api.TypeArr,
		Ins:    []api.Ins{param(api.TypeArr, 0), number(0), number(7), ins(api.OpStore, api.TypeVoid, 0, 1, 2)},
		Blocks: []api.Block{block(ret(0), nil, upTo(0, 4))}}
	main := api.Func{Ret: api.TypeInt, Ins: []api.Ins{
		number(1), number(0), truth(0),
		ins(api.OpNew, api.TypeArr, 0), ins(api.OpNew, api.TypeArr, 0),
		calls(0, api.TypeArr, 3),
		ins(api.OpLoad, api.TypeInt, 3, 1),
		ins(api.OpStore, api.TypeVoid, 5, 1, 0),
		ins(api.OpSelect, api.TypeArr, 2, 4, 3),
		ins(api.OpPhi, api.TypeArr, 8, 8),
		ins(api.OpLoad, api.TypeInt, 9, 1),
		ins(api.OpLoad, api.TypeInt, 4, 1),
		show(6), show(10), show(11),
	}, Blocks: []api.Block{
		block(branch(2, 1, 2), nil, list(0, 1, 2, 3, 4, 5, 6, 7, 8)),
		block(jump(2), list(0), nil),
		block(ret(1), list(0, 1), list(9, 10, 11, 12, 13, 14)),
	}}
	sees(t, api.Prog{Funcs: []api.Func{writes, main}, Main: 1}, nil, plenty, halts(0, 10+2+5+7, 7, 1, 0))
}

// Promise 11.1: a call's rows are new ones each time, with all cells 0.
func TestNewEachTime(t *testing.T) {
	f := api.Func{Ret: api.TypeInt,
		Ins:    []api.Ins{number(1), number(0), ins(api.OpNew, api.TypeArr, 0), ins(api.OpLoad, api.TypeInt, 2, 1), ins(api.OpStore, api.TypeVoid, 2, 1, 0)},
		Blocks: []api.Block{block(ret(3), nil, upTo(0, 5))}}
	main := api.Func{Ret: api.TypeInt, Ins: []api.Ins{calls(0, api.TypeInt), calls(0, api.TypeInt), ins(api.OpAdd, api.TypeInt, 0, 1)},
		Blocks: []api.Block{block(ret(2), nil, list(0, 1, 2))}}
	sees(t, api.Prog{Funcs: []api.Func{f, main}, Main: 1}, nil, plenty, halts(0, 4+2*7))
}

// Promise 11.1: of a program that is not sound nothing is seen, whatever its fuel; main with arguments is none.
func TestNotSound(t *testing.T) {
	p := straight(0, number(7), show(0))
	sees(t, p, nil, plenty, halts(7, 3, 7))
	wrong := []api.Prog{{}, {Main: -1}, {Funcs: make([]api.Func, 1)}}
	for _, bend := range []func(p *api.Prog){
		func(p *api.Prog) { p.Main = 1 },
		func(p *api.Prog) { p.Main = -1 },
		func(p *api.Prog) { p.Funcs[0].Params = list(api.TypeInt) },
		func(p *api.Prog) { p.Funcs[0].Ret = api.TypeBool },
		func(p *api.Prog) { p.Funcs[0].Blocks[0].Term.Arg = 2 },
		func(p *api.Prog) { p.Funcs[0].Blocks[0].Term.Kind = api.TermNone },
		func(p *api.Prog) { p.Funcs[0].Blocks[0].List = list(1, 0) },
		func(p *api.Prog) { p.Funcs[0].Blocks[0].Preds = list(0) },
		func(p *api.Prog) { p.Funcs[0].Ins[0].Op = api.OpCall + 1 },
		func(p *api.Prog) { p.Funcs[0].Ins[1].Args = list(5) },
		func(p *api.Prog) { p.Funcs = append(p.Funcs, api.Func{}) },
	} {
		q := straight(0, number(7), show(0))
		bend(&q)
		wrong = append(wrong, q)
	}
	for _, q := range wrong {
		for _, fuel := range numbers(-5, 0, 1, 2, plenty) {
			sees(t, q, numbers(1), fuel, api.Seen{End: api.EndStuck})
		}
	}
}

// R2: what is handed in is not changed, and what is answered is the caller's own.
func TestOwn(t *testing.T) {
	p, q := turns(3), turns(3)
	in := numbers(1, 2)
	first := Run(p, in, plenty)
	if !reflect.DeepEqual(p, q) || !slices.Equal(in, numbers(1, 2)) {
		t.Error("what was handed in was changed")
	}
	want := slices.Clone(first.Events)
	second := Run(p, in, plenty)
	for i := range second.Events {
		second.Events[i] = -1
	}
	if !slices.Equal(first.Events, want) || !slices.Equal(Run(p, in, plenty).Events, want) {
		t.Error("two answers share what they tell")
	}
}
