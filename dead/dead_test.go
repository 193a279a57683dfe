package dead

import (
	"math"
	"reflect"
	"slices"
	"strconv"
	"testing"

	"distaff/api"
	"distaff/ir"
	"distaff/samples"
)

// Short names of what makes functions.
var (
	list, upTo, block              = samples.List, samples.UpTo, samples.Block
	ins, number, truth, param, phi = samples.Ins, samples.Number, samples.Truth, samples.Param, samples.Phi
	guard, show, input, main       = samples.Guard, samples.Show, samples.Input, samples.Main
	straight, choice, round        = samples.Straight, samples.Choice, samples.Round
	ofEach, computing              = samples.OfEach, samples.Computing
	fine                           = samples.Fine
)

// The pass: all that is left is needed.
var pass = samples.Pass{Func: Func, Wrong: func(got api.Func) string {
	if id := slices.Index(Live(got), false); id >= 0 {
		return strconv.Itoa(id) + " is left"
	}
	return ""
}}

// Short names of what is asked of it.
var answer, want, wants, stays = pass.Answer, pass.Want, pass.Wants, pass.Stays

// live asks which instructions of a function are needed, and no others.
func live(t *testing.T, f api.Func, needed ...int) {
	t.Helper()
	before := ir.Clone(f)
	got := Live(f)
	if !ir.Same(f, before) {
		t.Fatalf("changed:\n%s\n%s", ir.Print(before), ir.Print(f))
	}
	is := make([]bool, len(f.Ins))
	for _, id := range needed {
		is[id] = true
	}
	if !slices.Equal(got, is) {
		t.Errorf("of\n%sis\n%v, not\n%v", ir.Print(f), got, is)
	}
}

// Promise 17.1: the chapter's example: the sum goes, and so does what only the sum was of.
func TestExample(t *testing.T) {
	f := straight(4, number(1), show(0), number(2), number(3), number(4), ins(api.OpAdd, api.TypeInt, 2, 3))
	live(t, f, 0, 1, 4)
	want(t, f, straight(2, number(1), show(0), number(4)))
	f.Blocks[0].Term.Arg = 0
	live(t, f, 0, 1)
	want(t, f, straight(0, number(1), show(0)))
}

// Promise 17.1: what only computes goes, if nobody needs it; so do cells that are read, and what may not be by 0. Needed by what is seen each stays.
func TestEach(t *testing.T) {
	l := append(computing(), ins(api.OpDiv, api.TypeInt, 2, 3), ins(api.OpRem, api.TypeInt, 2, 3), ins(api.OpLoad, api.TypeInt, 6, 2), ins(api.OpLoad, api.TypeInt, 8, 2))
	for _, x := range l {
		f := ofEach(x)
		if live(t, f, 0, 1, 2, 3, 6, 7, 8, 9); t.Failed() {
			t.Fatal(x)
		}
		is := straight(2, number(3), number(4), input(), input(), ins(api.OpNew, api.TypeArr, 0), ins(api.OpNew, api.TypeArr, 0), ins(api.OpNew2, api.TypeMat, 0, 1), ins(api.OpNew2, api.TypeMat, 0, 1))
		want(t, f, is)
		user := show(10)
		switch x.Type {
		case api.TypeArr, api.TypeMat:
			user = ins(api.OpStore, api.TypeVoid, 10, 0, 1)
		}
		needed := append(list(0, 1, 2, 3, 6, 7, 8, 9, 10, 11), x.Args...)
		f = ofEach(x, user)
		live(t, f, needed...)
		// What is told of both truths needs them.
		f = ofEach(x, user, show(4), show(5))
		stays(t, f)
	}
}

// Promise 17.1: what is seen stays, though nobody needs what it comes to, and so does what it is of.
func TestSeen(t *testing.T) {
	for _, x := range []api.Ins{input(), show(10), show(11), guard(1, 11), guard(3, 11), ins(api.OpNew, api.TypeArr, 10), ins(api.OpNew2, api.TypeMat, 10, 10),
		ins(api.OpStore, api.TypeVoid, 6, 10, 10), ins(api.OpStore, api.TypeVoid, 8, 10, 10)} {
		of := []api.Ins{ins(api.OpMul, api.TypeInt, 2, 3), ins(api.OpFlip, api.TypeBool, 4)}
		f := ofEach(append(of, x, number(7))...)
		needed := list(0, 1, 2, 3, 6, 7, 8, 9, 12)
		for _, a := range x.Args {
			needed = append(needed, a)
			needed = append(needed, f.Ins[a].Args...)
		}
		live(t, f, needed...)
		stays(t, ofEach(append(of, show(5), show(10), show(11), x)...))
	}
	// A call, even of what comes to nothing.
	for _, is := range list(api.TypeVoid, api.TypeInt) {
		f := straight(0, number(1), number(2), ins(api.OpNeg, api.TypeInt, 1), api.Ins{Op: api.OpCall, Type: is, Args: list(2, 0), To: 1}, number(3))
		live(t, f, 0, 1, 2, 3)
		wants(t, f, straight(0, f.Ins[:4]...))
	}
}

// Promise 17.1: of all operations: those that are seen are needed, and no others.
func TestOperations(t *testing.T) {
	seen := list(api.OpNew, api.OpNew2, api.OpStore, api.OpPrint, api.OpInput, api.OpGuard, api.OpCall)
	for op := -3; op < 50; op++ {
		f := api.Func{Name: "f", Ins: []api.Ins{{Op: op, Type: api.TypeInt}}, Blocks: []api.Block{block(ir.Ret(-1), nil, list(0))}}
		if slices.Contains(seen, op) {
			live(t, f, 0)
			wants(t, f, f)
			continue
		}
		live(t, f)
		wants(t, f, api.Func{Name: "f", Blocks: []api.Block{block(ir.Ret(-1), nil, nil)}})
	}
}

// Promise 17.1: arguments that nobody needs go; what there is of Params stays.
func TestParams(t *testing.T) {
	f := api.Func{Name: "f", Params: list(api.TypeInt, api.TypeInt, api.TypeArr), Ret: api.TypeInt, Ins: []api.Ins{param(api.TypeInt, 0), param(api.TypeInt, 1), param(api.TypeArr, 2)},
		Blocks: []api.Block{block(ir.Ret(1), nil, list(0, 1, 2))}}
	live(t, f, 1)
	wants(t, f, api.Func{Name: "f", Params: f.Params, Ret: api.TypeInt, Ins: []api.Ins{param(api.TypeInt, 1)}, Blocks: []api.Block{block(ir.Ret(0), nil, list(0))}})
}

// Promise 17.1: what a block ends by is needed; of a jump there is nothing such, nor of an end that is none.
func TestEnds(t *testing.T) {
	ahead := []api.Ins{input(), number(3), ins(api.OpLt, api.TypeBool, 0, 1), number(5), ins(api.OpNe, api.TypeBool, 3, 0)}
	f := choice(ahead, 2, number(8), number(9))
	live(t, f, 0, 1, 2, 6)
	want(t, f, choice(ahead[:3], 2, number(9)))
	f = straight(1, number(3), number(4))
	f.Blocks = append(f.Blocks, block(ir.Ret(0), list(0), nil))
	for kind := -1; kind < 6; kind++ {
		f.Blocks[0].Term = api.Term{Kind: kind, Arg: 1, To: list(1)}
		needed := list(0)
		if kind == api.TermBranch || kind == api.TermRet {
			needed = list(0, 1)
		}
		live(t, f, needed...)
		got := pass.Unsound(t, f)
		if len(got.Ins) != len(needed) {
			t.Errorf("%d: %s", kind, ir.Print(got))
		}
	}
	// A return of nothing.
	f = api.Func{Name: "f", Ins: []api.Ins{number(3)}, Blocks: []api.Block{block(ir.Ret(-1), nil, list(0))}}
	live(t, f)
	wants(t, f, api.Func{Name: "f", Blocks: []api.Block{block(ir.Ret(-1), nil, nil)}})
}

// Promise 17.1: an OpPhi that is needed needs all its Args, over whichever way they come; one that is not needs none.
func TestPhis(t *testing.T) {
	ahead := []api.Ins{input(), ins(api.OpNeg, api.TypeInt, 0), ins(api.OpNot, api.TypeInt, 0), ins(api.OpMul, api.TypeInt, 0, 0), ins(api.OpLt, api.TypeBool, 0, 0)}
	f := choice(ahead, 4, phi(api.TypeInt, 1, 3), phi(api.TypeInt, 0, 2), number(7))
	live(t, f, 0, 4, 7)
	want(t, f, choice([]api.Ins{input(), ins(api.OpLt, api.TypeBool, 0, 0)}, 1, number(7)))
	f = choice(ahead, 4, phi(api.TypeInt, 1, 3), phi(api.TypeInt, 0, 2))
	live(t, f, 0, 2, 4, 6)
	want(t, f, choice([]api.Ins{input(), ins(api.OpNot, api.TypeInt, 0), ins(api.OpLt, api.TypeBool, 0, 0)}, 2, phi(api.TypeInt, 0, 1)))
	f.Blocks[3].Term.Arg = 5
	live(t, f, 0, 1, 3, 4, 5)
}

// Promise 17.1: what in a loop is of one another alone goes, though each is an Arg of one; what is needed but once stays.
func TestLoops(t *testing.T) {
	ahead := []api.Ins{input(), number(1)}
	// 2 counts; 3 and 4 are of one another and of 2.
	head := []api.Ins{phi(api.TypeInt, 1, 6), phi(api.TypeInt, 0, 7), phi(api.TypeInt, 1, 3), ins(api.OpLt, api.TypeBool, 2, 0)}
	body := []api.Ins{ins(api.OpAdd, api.TypeInt, 2, 1), ins(api.OpXor, api.TypeInt, 4, 2)}
	f := round(0, ahead, head, body, 5)
	live(t, f, 0, 1, 2, 5, 6)
	want(t, f, round(0, ahead, []api.Ins{phi(api.TypeInt, 1, 4), ins(api.OpLt, api.TypeBool, 2, 0)}, body[:1], 3))
	for _, back := range list(3, 4) {
		f.Blocks[3].Term.Arg = back
		live(t, f, upTo(0, 8)...)
		stays(t, f)
	}
	stays(t, round(0, ahead, head, append(body, show(7)), 5))
	// The test itself by what is computed within.
	stays(t, round(0, ahead, append(head[:3:3], ins(api.OpLt, api.TypeBool, 4, 0)), body, 5))
	// An OpPhi that is of itself.
	f = round(0, ahead, []api.Ins{phi(api.TypeInt, 1, 2), ins(api.OpLt, api.TypeBool, 0, 1)}, nil, 3)
	live(t, f, 0, 1, 3)
	want(t, f, round(0, ahead, []api.Ins{ins(api.OpLt, api.TypeBool, 0, 1)}, nil, 2))
}

// Promise 17.1: blocks stay, even without anything; instructions, and blocks, may have numbers in any order.
func TestAnyOrder(t *testing.T) {
	// 0 goes to 2, that to 1.
	f := main([]api.Ins{ins(api.OpMul, api.TypeInt, 5, 3), show(2), ins(api.OpNeg, api.TypeInt, 5), ins(api.OpNot, api.TypeInt, 5), ins(api.OpAdd, api.TypeInt, 3, 5), input(), {}},
		block(ir.Jump(2), nil, list(5)), block(ir.Ret(0), list(2), list(1, 0)), block(ir.Jump(1), list(0), list(3, 4, 2)))
	live(t, f, 0, 1, 2, 3, 5)
	want(t, f, main([]api.Ins{input(), show(4), ins(api.OpMul, api.TypeInt, 0, 3), ins(api.OpNot, api.TypeInt, 0), ins(api.OpNeg, api.TypeInt, 0)},
		block(ir.Jump(2), nil, list(0)), block(ir.Ret(2), list(2), list(1, 2)), block(ir.Jump(1), list(0), list(3, 4))))
	f.Blocks[1] = block(ir.Ret(5), list(2), list(0))
	f.Ins[1] = api.Ins{}
	live(t, f, 5)
	want(t, f, main([]api.Ins{input()}, block(ir.Jump(2), nil, list(0)), block(ir.Ret(0), list(2), nil), block(ir.Jump(1), list(0), nil)))
}

// Functions that come to nothing, or have nothing, with names, arguments and types as they were.
func TestNothing(t *testing.T) {
	for _, f := range []api.Func{{}, {Name: "f", Ret: api.TypeArr, Params: list(api.TypeInt)}} {
		live(t, f)
		if got := Func(f); !reflect.DeepEqual(got, f) {
			t.Errorf("%+v", got)
		}
	}
	f := api.Func{Name: "f", Params: list(api.TypeInt, api.TypeMat), Blocks: []api.Block{block(ir.Ret(-1), nil, nil)}}
	live(t, f)
	wants(t, f, f)
}

// Promise 17.1: all that is seen is needed, wherever it stands, and so is what any block ends by; of what stands nowhere, or in a block that is not reached, nothing is left (ir.Compact).
func TestNowhere(t *testing.T) {
	f := straight(1, number(3), number(4), show(0), ins(api.OpNeg, api.TypeInt, 1), number(5))
	f.Blocks[0].List = list(0, 1, 4)
	live(t, f, 0, 1, 2)
	unsound(t, f, straight(1, number(3), number(4)))
	f = straight(1, number(3), number(4), number(5), number(6), show(2), ins(api.OpNeg, api.TypeInt, 2))
	f.Blocks[0].List = list(0, 1, 2, 3)
	f.Blocks = append(f.Blocks, block(ir.Ret(3), nil, list(4, 5)))
	live(t, f, 1, 2, 3, 4)
	unsound(t, f, straight(0, number(4), number(5), number(6)))
}

// unsound asks what comes of a function that may be none: of one that is not all reached there may be less the second time.
func unsound(t *testing.T, f, is api.Func) {
	t.Helper()
	if got := pass.Unsound(t, f); !ir.Same(got, is) {
		t.Fatalf("of\n%sis\n%snot\n%s", ir.Print(f), ir.Print(got), ir.Print(is))
	}
}

// R1: what of a function is not there, or is as it may not be, is no fault of the call.
func TestUnsound(t *testing.T) {
	f := straight(2, number(1), show(7), ins(api.OpNeg, api.TypeInt, -1, 99, 0, math.MaxInt, math.MinInt), ins(api.OpAdd, api.TypeInt), show(-1), guard(1, 8), number(2))
	f.Blocks[0].List = list(-1, 0, 99, 1, 2, 3, math.MaxInt, 4, 5, 6, math.MinInt)
	live(t, f, 0, 1, 2, 4, 5)
	unsound(t, f, straight(2, number(1), show(-1), ins(api.OpNeg, api.TypeInt, -1, -1, 0, -1, -1), show(-1), guard(1, -1)))
	for _, arg := range list(-1, 7, math.MaxInt, math.MinInt) {
		for kind := range 5 {
			f.Blocks[0].Term = api.Term{Kind: kind, Arg: arg, To: list(0, -1, 5)}
			live(t, f, 1, 4, 5)
		}
	}
	// One that stands twice stays twice, or goes twice.
	f = straight(1, number(1), ins(api.OpNeg, api.TypeInt, 0), number(2))
	f.Blocks[0].List = list(0, 2, 0, 1, 2, 1)
	live(t, f, 0, 1)
	unsound(t, f, straight(3, number(1), number(1), ins(api.OpNeg, api.TypeInt, 1), ins(api.OpNeg, api.TypeInt, 1)))
}

// R2, R4: what is done to an answer changes nothing, neither what was handed in nor another list of it; the same calls answer the same.
func TestOwn(t *testing.T) {
	f := choice([]api.Ins{input(), truth(1), number(2), number(3), ins(api.OpNe, api.TypeBool, 0, 2)}, 4, phi(api.TypeInt, 0, 2), phi(api.TypeInt, 2, 2), show(5), ins(api.OpSub, api.TypeInt, 5, 0))
	f.Params = list(api.TypeInt)
	if wrong := samples.Shares(Func, f); wrong != "" {
		t.Error(wrong)
	}
	got := Live(f)
	was := slices.Clone(got)
	clear(Live(f))
	samples.Spoil(f)
	if !slices.Equal(got, was) {
		t.Error(got, was)
	}
}
