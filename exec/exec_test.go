package exec

import (
	"math"
	"reflect"
	"slices"
	"testing"

	"distaff/api"
	"distaff/arith"
)

// Short ways to make functions.

func list(l ...int) []int { return l }

func numbers(l ...int64) []int64 { return l }

func ins(op, is int, args ...int) api.Ins { return api.Ins{Op: op, Type: is, Args: args} }

func number(n int64) api.Ins { return api.Ins{Op: api.OpConst, Type: api.TypeInt, N: n} }

func truth(n int64) api.Ins { return api.Ins{Op: api.OpConst, Type: api.TypeBool, N: n} }

func param(is int, n int64) api.Ins { return api.Ins{Op: api.OpParam, Type: is, N: n} }

func guard(which int64, arg int) api.Ins {
	return api.Ins{Op: api.OpGuard, N: which, Args: list(arg)}
}

func calls(to, is int, args ...int) api.Ins {
	return api.Ins{Op: api.OpCall, Type: is, Args: args, To: to}
}

func show(arg int) api.Ins { return ins(api.OpPrint, api.TypeVoid, arg) }

func block(t api.Term, preds, l []int) api.Block { return api.Block{List: l, Preds: preds, Term: t} }

func jump(to int) api.Term { return api.Term{Kind: api.TermJump, Arg: -1, To: list(to)} }

func branch(c, yes, no int) api.Term {
	return api.Term{Kind: api.TermBranch, Arg: c, To: list(yes, no)}
}

func ret(v int) api.Term { return api.Term{Kind: api.TermRet, Arg: v} }

// upTo is the numbers from one on, below another one.
func upTo(from, below int) []int {
	var l []int
	for n := from; n < below; n++ {
		l = append(l, n)
	}
	return l
}

// straight is a program of one block, with its instructions in order, that returns one of them.
func straight(back int, l ...api.Ins) api.Prog {
	return api.Prog{Funcs: []api.Func{{Name: "main", Ret: api.TypeInt, Ins: l, Blocks: []api.Block{block(ret(back), nil, upTo(0, len(l)))}}}}
}

const plenty = 1 << 30

// same tells whether two things that were seen are the same: no events are as good as an empty list of them.
func same(a, b api.Seen) bool {
	if !slices.Equal(a.Events, b.Events) {
		return false
	}
	a.Events, b.Events = nil, nil
	return reflect.DeepEqual(a, b)
}

// sees asks what is seen of a run.
func sees(t *testing.T, p api.Prog, in []int64, fuel int64, want api.Seen) {
	t.Helper()
	if got := Run(p, in, fuel); !same(got, want) {
		t.Errorf("%+v, %v, %d: %+v, not %+v", p, in, fuel, got, want)
	}
}

func halts(value, used int64, events ...int64) api.Seen {
	return api.Seen{End: api.EndHalt, Value: value, Used: used, Events: events}
}

func traps(which, used int64, events ...int64) api.Seen {
	return api.Seen{End: api.EndTrap, Value: which, Used: used, Events: events}
}

func sticks(used int64, events ...int64) api.Seen {
	return api.Seen{End: api.EndStuck, Used: used, Events: events}
}

func spends(used int64, events ...int64) api.Seen {
	return api.Seen{Used: used, Events: events}
}

// Promise 11.1: the chapter's example.
func TestSeven(t *testing.T) {
	p := straight(0, number(7))
	sees(t, p, nil, plenty, halts(7, 2))
	sees(t, p, nil, math.MaxInt64, halts(7, 2))
	sees(t, p, nil, 2, halts(7, 2))
	sees(t, p, nil, 1, spends(1))
	sees(t, p, nil, 0, spends(0))
	sees(t, p, nil, -1, spends(0))
	sees(t, p, nil, math.MinInt64, spends(0))
}

// edges are numbers at which operations differ.
func edges() []int64 {
	return numbers(0, 1, 2, -1, -2, 7, -7, 63, 64, 65, 1<<31, 1<<62, math.MaxInt64, math.MinInt64, math.MinInt64+1)
}

// Promise 11.1: the operations of layer 1 come to what that layer says; OpDiv and OpRem by 0 are stuck.
func TestOperations(t *testing.T) {
	for op := api.OpAdd; op <= api.OpFlip; op++ {
		is := api.TypeInt
		if arith.Compares(op) {
			is = api.TypeBool
		}
		for _, a := range edges() {
			if op == api.OpNeg || op == api.OpNot {
				n, _ := arith.One(op, a)
				sees(t, straight(0, number(a), ins(op, is, 0), show(1)), nil, plenty, halts(a, 4, n))
				continue
			}
			if op == api.OpFlip {
				continue
			}
			for _, b := range edges() {
				want := sticks(3)
				if n, ok := arith.Do(op, a, b); ok {
					want = halts(a, 5, n)
				}
				sees(t, straight(0, number(a), number(b), ins(op, is, 0, 1), show(2)), nil, plenty, want)
			}
		}
	}
	for n := range int64(2) {
		sees(t, straight(0, number(5), truth(n), ins(api.OpFlip, api.TypeBool, 1), show(2)), nil, plenty, halts(5, 5, 1-n))
		for m := range int64(2) {
			sees(t, straight(0, number(5), truth(n), truth(m), ins(api.OpEq, api.TypeBool, 1, 2), ins(api.OpNe, api.TypeBool, 1, 2), show(3), show(4)), nil, plenty, halts(5, 8, 1-n^m, n^m))
		}
	}
}

// Promise 11.1: what is stuck by 0 has printed what stands ahead of it, and nothing else.
func TestDivideByNought(t *testing.T) {
	for _, op := range list(api.OpDiv, api.OpRem) {
		p := straight(0, number(7), number(0), show(0), ins(op, api.TypeInt, 0, 1), show(1))
		sees(t, p, nil, plenty, sticks(4, 7))
		sees(t, p, nil, 4, sticks(4, 7))
		sees(t, p, nil, 3, spends(3, 7))
	}
}

// Promise 11.1: OpSelect is one of both, of numbers, of truths, of rows.
func TestSelect(t *testing.T) {
	for n := range int64(2) {
		c := truth(n)
		sees(t, straight(3, c, number(4), number(5), ins(api.OpSelect, api.TypeInt, 0, 1, 2)), nil, plenty, halts(5-n, 5))
		sees(t, straight(1, c, number(4), truth(0), truth(1), ins(api.OpSelect, api.TypeBool, 0, 2, 3), show(4)), nil, plenty, halts(4, 7, 1-n))
		sees(t, straight(6, c, number(4), number(5), ins(api.OpNew, api.TypeArr, 1), ins(api.OpNew, api.TypeArr, 2),
			ins(api.OpSelect, api.TypeArr, 0, 3, 4), ins(api.OpLen, api.TypeInt, 5)), nil, plenty, halts(5-n, 8+4+5))
	}
}

// Promise 11.1: how long rows are, and the fuel that they take.
func TestHowLong(t *testing.T) {
	for _, n := range numbers(0, 1, 5, api.MostCells-1, api.MostCells) {
		p := straight(2, number(n), ins(api.OpNew, api.TypeArr, 0), ins(api.OpLen, api.TypeInt, 1))
		sees(t, p, nil, plenty, halts(n, 4+n))
		sees(t, p, nil, 4+n, halts(n, 4+n))
		sees(t, p, nil, 3+n, spends(3+n))
		sees(t, p, nil, 2+n-1, spends(2+n-1))
	}
	for _, n := range [][2]int64{{0, 0}, {0, 7}, {7, 0}, {3, 4}, {1, api.MostCells}, {api.MostCells, 1}, {0, api.MostCells}, {api.MostCells, 0}, {256, 256}} {
		p := straight(3, number(n[0]), number(n[1]), ins(api.OpNew2, api.TypeMat, 0, 1),
			ins(api.OpRows, api.TypeInt, 2), ins(api.OpCols, api.TypeInt, 2), show(4))
		used := 7 + n[0]*n[1]
		sees(t, p, nil, plenty, halts(n[0], used, n[1]))
		sees(t, p, nil, used, halts(n[0], used, n[1]))
		sees(t, p, nil, used-1, spends(used-1, n[1]))
		sees(t, p, nil, used-5, spends(used-5))
	}
}

// Promise 11.1: rows that may not be are stuck, whatever the fuel is.
func TestTooLong(t *testing.T) {
	for _, n := range numbers(-1, math.MinInt64, api.MostCells+1, 1<<32, 1<<48, math.MaxInt64) {
		p := straight(0, number(n), ins(api.OpNew, api.TypeArr, 0))
		sees(t, p, nil, plenty, sticks(2))
		sees(t, p, nil, 2, sticks(2))
		sees(t, p, nil, 1, spends(1))
		for _, m := range numbers(n, 0, 1, -1) {
			sees(t, straight(0, number(n), number(m), ins(api.OpNew2, api.TypeMat, 0, 1)), nil, plenty, sticks(3))
			sees(t, straight(0, number(m), number(n), ins(api.OpNew2, api.TypeMat, 0, 1)), nil, 3, sticks(3))
		}
	}
	for _, n := range [][2]int64{{256, 257}, {257, 256}, {2, api.MostCells/2 + 1}, {api.MostCells, api.MostCells}, {api.MostCells, 2}} {
		sees(t, straight(0, number(n[0]), number(n[1]), ins(api.OpNew2, api.TypeMat, 0, 1)), nil, plenty, sticks(3))
	}
}

// Promise 11.1: cells are 0 until they are written; each is a cell of its own.
func TestCells(t *testing.T) {
	for _, wide := range []bool{false, true} {
		l := []api.Ins{number(2), number(3), number(6), ins(api.OpNew, api.TypeArr, 2)}
		if wide {
			l[3] = ins(api.OpNew2, api.TypeMat, 0, 1)
		}
		var events []int64
		for at := range int64(6) {
			id := len(l)
			l = append(l, number(at), number(at*at+1),
				ins(api.OpLoad, api.TypeInt, 3, id), show(id+2),
				ins(api.OpStore, api.TypeVoid, 3, id, id+1))
			events = append(events, 0)
		}
		for at := range int64(6) {
			id := len(l)
			l = append(l, ins(api.OpLoad, api.TypeInt, 3, 4+5*int(at)), show(id))
			events = append(events, at*at+1)
		}
		sees(t, straight(0, l...), nil, plenty, halts(2, int64(len(l))+6+1, events...))
	}
}

// Promise 11.1: a cell that is not there is stuck, read or written; the last one is there.
func TestNoCell(t *testing.T) {
	for _, made := range []struct {
		rows, cols int64
		op, is     int
	}{{6, 1, api.OpNew, api.TypeArr}, {2, 3, api.OpNew2, api.TypeMat}, {3, 2, api.OpNew2, api.TypeMat}, {0, 1, api.OpNew, api.TypeArr}, {5, 0, api.OpNew2, api.TypeMat}, {0, 5, api.OpNew2, api.TypeMat}} {
		rows := ins(made.op, made.is, 0, 1)
		if made.op == api.OpNew {
			rows = ins(made.op, made.is, 0)
		}
		cells := made.rows * made.cols
		for _, at := range numbers(-1, 0, 1, cells-1, cells, cells+1, 1<<32, 1<<32+1, math.MaxInt64, math.MinInt64) {
			read := straight(0, number(made.rows), number(made.cols), rows, number(at), ins(api.OpLoad, api.TypeInt, 2, 3), show(4))
			write := straight(0, number(made.rows), number(made.cols), rows, number(at), ins(api.OpStore, api.TypeVoid, 2, 3, 3), ins(api.OpLoad, api.TypeInt, 2, 3), show(5))
			if at >= 0 && at < cells {
				sees(t, read, nil, plenty, halts(made.rows, 7+cells, 0))
				sees(t, write, nil, plenty, halts(made.rows, 8+cells, at))
			} else {
				sees(t, read, nil, plenty, sticks(5+cells))
				sees(t, write, nil, plenty, sticks(5+cells))
				sees(t, write, nil, 4+cells, spends(4+cells))
			}
		}
	}
}

// Promise 11.1: OpInput reads one number behind the other; when there is nothing left, it is the trap of input.
func TestInput(t *testing.T) {
	p := straight(0, ins(api.OpInput, api.TypeInt), ins(api.OpInput, api.TypeInt), show(1), ins(api.OpInput, api.TypeInt), show(3))
	in := numbers(math.MinInt64, 8, 0, 9)
	sees(t, p, in, plenty, halts(math.MinInt64, 6, 8, 0))
	sees(t, p, in[:3], plenty, halts(math.MinInt64, 6, 8, 0))
	sees(t, p, in[:2], plenty, traps(api.TrapInput, 4, 8))
	sees(t, p, in[:2], 4, traps(api.TrapInput, 4, 8))
	sees(t, p, in[:2], 3, spends(3, 8))
	sees(t, p, in[:1], plenty, traps(api.TrapInput, 2))
	sees(t, p, nil, plenty, traps(api.TrapInput, 1))
	if !slices.Equal(in, numbers(math.MinInt64, 8, 0, 9)) {
		t.Error(in)
	}
}

// Promise 11.1: OpGuard ends the run by its trap of 0, else nothing is seen of it.
func TestGuard(t *testing.T) {
	for which := range int64(3) {
		p := straight(0, number(5), truth(1), truth(0), guard(which+1, 1), show(0), guard(which+1, 2), show(1))
		sees(t, p, nil, plenty, traps(which+1, 6, 5))
		sees(t, p, nil, 6, traps(which+1, 6, 5))
		sees(t, p, nil, 5, spends(5, 5))
		sees(t, straight(0, number(5), truth(1), guard(which+1, 1), show(1)), nil, plenty, halts(5, 5, 1))
	}
}

// Promise 11.1: instructions are done as they stand in lists, whatever their numbers are; OpNone is none.
func TestOrder(t *testing.T) {
	p := api.Prog{Funcs: []api.Func{{Ret: api.TypeInt, Ins: []api.Ins{show(5), {}, show(3), number(7), {Type: api.TypeInt}, number(8)},
		Blocks: []api.Block{block(jump(2), nil, list(5, 3, 0)), block(ret(5), list(2), nil), block(jump(1), list(0), list(2))}}}}
	sees(t, p, nil, plenty, halts(8, 7, 8, 7))
}
