package fold

import (
	"math"
	"reflect"
	"strconv"
	"testing"

	"distaff/api"
	"distaff/arith"
	"distaff/ir"
	"distaff/samples"
)

// Short names of what makes functions.
var (
	list, upTo, block              = samples.List, samples.UpTo, samples.Block
	ins, number, truth, param, phi = samples.Ins, samples.Number, samples.Truth, samples.Param, samples.Phi
	guard, show, input             = samples.Guard, samples.Show, samples.Input
	straight, choice, round        = samples.Straight, samples.Choice, samples.Round
	fine                           = samples.Fine
)

// The pass: nothing is left that the promise rules out.
var pass = samples.Pass{Func: Func, Wrong: func(got api.Func) string {
	for id, x := range got.Ins {
		if ruledOut(got, id, x) {
			return strconv.Itoa(id) + " is left"
		}
	}
	return ""
}}

// Short names of what is asked of it.
var answer, want, wants, stays = pass.Answer, pass.Want, pass.Wants, pass.Stays

// ruledOut tells whether an instruction must not be left.
func ruledOut(f api.Func, id int, x api.Ins) bool {
	known := func(at int) bool { return f.Ins[x.Args[at]].Op == api.OpConst }
	switch {
	case x.Op == api.OpGuard:
		return known(0) && f.Ins[x.Args[0]].N != 0
	case x.Op == api.OpSelect:
		return known(0)
	case x.Op == api.OpPhi:
		others := map[int]int{}
		for _, a := range x.Args {
			others[a]++
		}
		delete(others, id)
		return len(others) < 2
	case x.Op == api.OpDiv || x.Op == api.OpRem:
		return known(0) && known(1) && f.Ins[x.Args[1]].N != 0
	case arith.Unary(x.Op):
		return known(0)
	case arith.Binary(x.Op):
		return known(0) && known(1)
	}
	return false
}

// Promise 14.1: the chapter's example; what is reckoned is an OpConst in its place, and what nobody needs any more stays.
func TestSum(t *testing.T) {
	want(t, straight(2, number(1), number(2), ins(api.OpAdd, api.TypeInt, 0, 1)), straight(2, number(1), number(2), number(3)))
	want(t, straight(4, number(1), input(), ins(api.OpAdd, api.TypeInt, 0, 0), show(1), ins(api.OpMul, api.TypeInt, 2, 2)),
		straight(4, number(1), input(), number(2), show(1), number(4)))
	stays(t, straight(0, number(7), number(7), truth(1)))
}

// Promise 14.1: each operation of known numbers is what layer 1 says, of the type that it was of; / and % by 0 stay.
func TestOperations(t *testing.T) {
	for _, o := range samples.Operations() {
		want(t, o.F, o.Is)
	}
}

// Promise 14.1: / and % by 0 stay, and what is made of them, whatever is divided; what they are made of is reckoned.
func TestByNought(t *testing.T) {
	for _, op := range list(api.OpDiv, api.OpRem) {
		want(t, straight(4, number(1), number(1), ins(api.OpSub, api.TypeInt, 0, 1), ins(op, api.TypeInt, 0, 2), ins(api.OpAdd, api.TypeInt, 3, 3)),
			straight(4, number(1), number(1), number(0), ins(op, api.TypeInt, 0, 2), ins(api.OpAdd, api.TypeInt, 3, 3)))
		stays(t, straight(2, input(), number(3), ins(op, api.TypeInt, 1, 0)))
		stays(t, straight(2, input(), number(3), ins(op, api.TypeInt, 0, 1)))
		stays(t, straight(2, input(), number(0), ins(op, api.TypeInt, 1, 0)))
	}
}

// Promise 14.1: what is not of known numbers alone stays as it is, even where its result is known; so does what is seen, and what is of rows.
func TestUnknown(t *testing.T) {
	for op := api.OpAdd; op <= api.OpUlt; op++ {
		is := api.TypeInt
		if arith.Compares(op) {
			is = api.TypeBool
		}
		if !arith.Binary(op) {
			continue
		}
		for _, n := range list(0, 1, -1) {
			stays(t, straight(0, input(), number(int64(n)), ins(op, is, 0, 1)))
			stays(t, straight(0, input(), number(int64(n)), ins(op, is, 1, 0)))
		}
		stays(t, straight(0, input(), ins(op, is, 0, 0)))
	}
	for _, op := range list(api.OpNeg, api.OpNot) {
		stays(t, straight(1, input(), ins(op, api.TypeInt, 0)))
	}
	stays(t, straight(2, number(3), ins(api.OpNew, api.TypeArr, 0), ins(api.OpLen, api.TypeInt, 1)))
	stays(t, straight(4, number(3), number(4), ins(api.OpNew2, api.TypeMat, 0, 1), ins(api.OpRows, api.TypeInt, 2), ins(api.OpCols, api.TypeInt, 2)))
	stays(t, straight(3, number(1), ins(api.OpNew, api.TypeArr, 0), ins(api.OpStore, api.TypeVoid, 1, 0, 0), ins(api.OpLoad, api.TypeInt, 1, 0)))
	stays(t, straight(0, number(1), show(0), show(0)))
	f := straight(1, number(1), api.Ins{Op: api.OpCall, Type: api.TypeInt, Args: list(0, 0)})
	f.Params = list(api.TypeInt, api.TypeInt)
	wants(t, f, f)
}

// Promise 14.1: an OpGuard of a known number that is not 0 goes; of 0, and of what is not known, it stays.
func TestGuards(t *testing.T) {
	for which := int64(api.TrapIndex); which <= api.TrapLength; which++ {
		want(t, straight(2, truth(1), guard(which, 0), number(7), show(2)), straight(1, truth(1), number(7), show(1)))
		stays(t, straight(2, truth(0), guard(which, 0), number(7), show(2)))
		stays(t, straight(0, input(), number(7), ins(api.OpLt, api.TypeBool, 0, 1), guard(which, 2)))
	}
	// What it goes by is only found out.
	want(t, straight(0, number(2), number(5), ins(api.OpUlt, api.TypeBool, 0, 1), guard(1, 2), ins(api.OpFlip, api.TypeBool, 2), guard(2, 4)),
		straight(0, number(2), number(5), truth(1), truth(0), guard(2, 3)))
}

// Promise 14.1: an OpSelect of what is known is what it chooses, be that known or not, of any type; another one stays.
func TestSelects(t *testing.T) {
	for c := range int64(2) {
		chosen := 2 - int(c)
		want(t, straight(3, truth(c), input(), input(), ins(api.OpSelect, api.TypeInt, 0, 1, 2), show(3)), straight(chosen, truth(c), input(), input(), show(chosen)))
		want(t, straight(3, truth(c), number(4), number(5), ins(api.OpSelect, api.TypeInt, 0, 1, 2), ins(api.OpNeg, api.TypeInt, 3)),
			straight(chosen, truth(c), number(4), number(5), number(-4-(1-c))))
		want(t, straight(1, truth(c), number(4), ins(api.OpNew, api.TypeArr, 1), ins(api.OpNew, api.TypeArr, 1), ins(api.OpSelect, api.TypeArr, 0, 2, 3), ins(api.OpLen, api.TypeInt, 4)),
			straight(1, truth(c), number(4), ins(api.OpNew, api.TypeArr, 1), ins(api.OpNew, api.TypeArr, 1), ins(api.OpLen, api.TypeInt, chosen+1)))
		// Those that choose by what is chosen.
		want(t, straight(4, truth(c), truth(1-c), input(), ins(api.OpSelect, api.TypeBool, 0, 1, 0), ins(api.OpSelect, api.TypeInt, 3, 2, 2)),
			straight(2, truth(c), truth(1-c), input()))
	}
	stays(t, straight(3, input(), number(4), ins(api.OpLt, api.TypeBool, 0, 1), ins(api.OpSelect, api.TypeInt, 2, 0, 1)))
	stays(t, straight(3, input(), number(4), ins(api.OpLt, api.TypeBool, 0, 1), ins(api.OpSelect, api.TypeInt, 2, 0, 0)))
	stays(t, straight(3, input(), number(4), ins(api.OpLt, api.TypeBool, 0, 1), ins(api.OpSelect, api.TypeInt, 2, 1, 1)))
}

// Promise 14.1: an OpPhi whose Args are all one instruction is that one, and goes; one of two instructions stays, even if both are the same number.
func TestPhis(t *testing.T) {
	ahead := []api.Ins{input(), input(), number(3), number(3), ins(api.OpLt, api.TypeBool, 0, 2)}
	for a := range 2 {
		want(t, choice(ahead, 4, phi(api.TypeInt, a, a), show(5), ins(api.OpNeg, api.TypeInt, 5)), choice(ahead, 4, show(a), ins(api.OpNeg, api.TypeInt, a)))
		stays(t, choice(ahead, 4, phi(api.TypeInt, a, 1-a)))
		stays(t, choice(ahead, 4, phi(api.TypeInt, a, 2)))
	}
	want(t, choice(ahead, 4, phi(api.TypeInt, 2, 2), ins(api.OpNeg, api.TypeInt, 5)), choice(ahead, 4, number(-3)))
	stays(t, choice(ahead, 4, phi(api.TypeInt, 2, 3), ins(api.OpNeg, api.TypeInt, 5)))
	// One of what is one: both go. What an end goes by is the one, too.
	want(t, choice(ahead, 4, phi(api.TypeInt, 0, 0), phi(api.TypeInt, 1, 0), phi(api.TypeInt, 1, 1)), func() api.Func {
		f := choice(ahead, 4, phi(api.TypeInt, 1, 0))
		f.Blocks[3].Term.Arg = 1
		return f
	}())
	// Behind one way alone.
	f := api.Func{Name: "main", Ret: api.TypeInt, Ins: []api.Ins{input(), phi(api.TypeInt, 0), phi(api.TypeInt, 1)},
		Blocks: []api.Block{block(ir.Jump(1), nil, list(0)), block(ir.Jump(2), list(0), list(1)), block(ir.Ret(2), list(1), list(2))}}
	is := straight(0, input())
	is.Blocks = []api.Block{block(ir.Jump(1), nil, list(0)), block(ir.Jump(2), list(0), nil), block(ir.Ret(0), list(1), nil)}
	want(t, f, is)
}

// Promise 14.1: an OpPhi may be one of its own Args, and be it only by what is found out behind it.
func TestLoops(t *testing.T) {
	ahead := []api.Ins{input(), input(), truth(1), truth(0)}
	less := ins(api.OpLt, api.TypeBool, 0, 1)
	is := func(back int, body ...api.Ins) api.Func {
		return round(back, ahead, []api.Ins{less}, body, 4)
	}
	lessThan := func(a int) []api.Ins { return []api.Ins{phi(api.TypeInt, 0, a), ins(api.OpLt, api.TypeBool, 4, 1)} }
	want(t, round(4, ahead, lessThan(4), nil, 5), is(0))
	want(t, round(4, ahead, lessThan(0), nil, 5), is(0))
	stays(t, round(4, ahead, lessThan(1), nil, 5))
	// It takes itself by an OpSelect, which is looked at later.
	want(t, round(4, ahead, lessThan(6), []api.Ins{ins(api.OpSelect, api.TypeInt, 2, 4, 1), show(4), show(6)}, 5), is(0, show(0), show(0)))
	want(t, round(4, ahead, lessThan(6), []api.Ins{ins(api.OpSelect, api.TypeInt, 3, 4, 1)}, 5), round(4, ahead, lessThan(1), nil, 5))
	// Two that take each other are two: neither is of one instruction.
	both := []api.Ins{phi(api.TypeInt, 0, 5), phi(api.TypeInt, 0, 4), ins(api.OpLt, api.TypeBool, 4, 5)}
	stays(t, round(4, ahead, both, nil, 6))
	// A number that is known only behind the loop's end is known in its head, too.
	want(t, round(3, []api.Ins{number(1), truth(1)}, []api.Ins{phi(api.TypeInt, 0, 5), ins(api.OpAdd, api.TypeInt, 2, 2), ins(api.OpLt, api.TypeBool, 2, 0)},
		[]api.Ins{ins(api.OpSelect, api.TypeInt, 1, 2, 3)}, 4),
		round(2, []api.Ins{number(1), truth(1)}, []api.Ins{number(2), truth(0)}, nil, 3))
}

// Promise 14.1: what is asked of blocks whose numbers stand in another order than their ways go is the same.
func TestBlocksInAnyOrder(t *testing.T) {
	f := api.Func{Name: "main", Ret: api.TypeInt, Ins: []api.Ins{
		ins(api.OpAdd, api.TypeInt, 1, 3), ins(api.OpMul, api.TypeInt, 2, 2), phi(api.TypeInt, 3), number(3), number(9),
	}, Blocks: []api.Block{block(ir.Jump(2), nil, list(4, 3)), block(ir.Ret(0), list(2), list(0)), block(ir.Jump(1), list(0), list(2, 1))}}
	want(t, f, api.Func{Name: "main", Ret: api.TypeInt, Ins: []api.Ins{number(9), number(3), number(12), number(9)},
		Blocks: []api.Block{block(ir.Jump(2), nil, list(0, 1)), block(ir.Ret(2), list(2), list(2)), block(ir.Jump(1), list(0), list(3))}})
}

// Promise 14.1: an end stays, even if its number is known; it goes by what is left.
func TestEnds(t *testing.T) {
	f := choice([]api.Ins{number(2), truth(1), truth(0), ins(api.OpEq, api.TypeBool, 1, 2), ins(api.OpSelect, api.TypeBool, 3, 1, 3)}, 4, phi(api.TypeInt, 0, 0))
	is := choice([]api.Ins{number(2), truth(1), truth(0), truth(0)}, 3)
	is.Blocks[3].Term.Arg = 0
	want(t, f, is)
}

// A function that comes to nothing, with names, arguments and types as they were.
func TestNothing(t *testing.T) {
	f := api.Func{Name: "f", Params: list(api.TypeInt, api.TypeMat), Ins: []api.Ins{param(api.TypeInt, 0), param(api.TypeMat, 1), truth(1), guard(1, 2)},
		Blocks: []api.Block{block(ir.Ret(-1), nil, list(0, 1, 2, 3))}}
	is := api.Func{Name: "f", Params: list(api.TypeInt, api.TypeMat), Ins: []api.Ins{param(api.TypeInt, 0), param(api.TypeMat, 1), truth(1)},
		Blocks: []api.Block{block(ir.Ret(-1), nil, list(0, 1, 2))}}
	wants(t, f, is)
	if got := Func(api.Func{}); !reflect.DeepEqual(got, api.Func{}) {
		t.Errorf("%+v", got)
	}
	if got := Func(api.Func{Name: "f", Ret: api.TypeArr}); !reflect.DeepEqual(got, api.Func{Name: "f", Ret: api.TypeArr}) {
		t.Errorf("%+v", got)
	}
}

// unsound asks what holds of all functions: once is as good as twice.
func unsound(t *testing.T, f api.Func) {
	t.Helper()
	got := pass.Unsound(t, f)
	if again := Func(got); !ir.Same(again, got) {
		t.Fatalf("%s\n%s\n%s", ir.Print(f), ir.Print(got), ir.Print(again))
	}
}

// R1: what of a function is not there, or is as it may not be, is no fault of the call.
func TestUnsound(t *testing.T) {
	loose := []api.Ins{ins(api.OpSelect, api.TypeInt), ins(api.OpSelect, api.TypeInt, 9), ins(api.OpSelect, api.TypeInt, 8, 9), ins(api.OpGuard, 0), ins(api.OpAdd, api.TypeInt), ins(api.OpAdd, api.TypeInt, 8),
		ins(api.OpNeg, api.TypeInt), phi(api.TypeInt), truth(1), ins(api.OpSelect, api.TypeInt, 8, 9, 9), ins(api.OpSelect, api.TypeInt, 8, 11, 11), ins(api.OpSelect, api.TypeInt, 8, 10, 10),
		phi(api.TypeInt, 12, 12), phi(api.TypeInt, 14), phi(api.TypeInt, 13), phi(api.TypeInt, -1, 99), ins(api.OpAdd, api.TypeInt, -1, math.MaxInt), {}}
	unsound(t, straight(-1, loose...))
	unsound(t, straight(11, loose...))
	f := straight(0, number(1), ins(api.OpNeg, api.TypeInt, 0))
	f.Blocks[0].Term = ir.Jump(5)
	unsound(t, f)
	f.Blocks[0].List = list(-1, 0, 0, 1, 1, 7)
	f.Blocks[0].Preds = list(0, -1, 5)
	f.Blocks[0].Term = ir.Branch(-7, 0, 0)
	unsound(t, f)
}

// R2, R4: what is done to an answer changes nothing, neither what was handed in nor another list of it; the same calls answer the same.
func TestOwn(t *testing.T) {
	f := choice([]api.Ins{input(), truth(1), ins(api.OpSelect, api.TypeInt, 1, 0, 0), ins(api.OpNe, api.TypeBool, 0, 2)}, 3, phi(api.TypeInt, 0, 2), phi(api.TypeInt, 0, 2), ins(api.OpSub, api.TypeInt, 4, 5))
	f.Params = list(api.TypeInt)
	if wrong := samples.Shares(Func, f); wrong != "" {
		t.Error(wrong)
	}
}
