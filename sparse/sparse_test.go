package sparse

import (
	"math"
	"reflect"
	"slices"
	"strconv"
	"testing"

	"distaff/api"
	"distaff/arith"
	"distaff/ir"
	"distaff/samples"
)

// Short names of what makes functions.
var (
	list, upTo, block              = samples.List, samples.UpTo, samples.Block
	ins, number, truth, param, phi = samples.Ins, samples.Number, samples.Truth, samples.Param, samples.Phi
	guard, show, input, main       = samples.Guard, samples.Show, samples.Input, samples.Main
	straight, choice, round        = samples.Straight, samples.Choice, samples.Round
	fine                           = samples.Fine
)

// The pass: what is known is OpConst, and no end goes by what is known.
var pass = samples.Pass{Func: Func, Wrong: func(got api.Func) string {
	known, _ := Facts(got)
	for id, x := range got.Ins {
		if known[id] != (x.Op == api.OpConst) {
			return strconv.Itoa(id) + " is left"
		}
	}
	for b, k := range got.Blocks {
		if k.Term.Kind == api.TermBranch && known[k.Term.Arg] {
			return "the end of " + strconv.Itoa(b) + " is left"
		}
	}
	return ""
}}

// Short names of what is asked of it.
var answer, want, wants, stays = pass.Answer, pass.Want, pass.Wants, pass.Stays

// facts asks what is known of a function: pairs of an instruction and its number; nothing is known of others.
func facts(t *testing.T, f api.Func, pairs ...int64) {
	t.Helper()
	before := ir.Clone(f)
	known, numbers := Facts(f)
	if !ir.Same(f, before) {
		t.Fatalf("changed: %s\n%s", ir.Print(before), ir.Print(f))
	}
	isKnown, isNumbers := make([]bool, len(f.Ins)), make([]int64, len(f.Ins))
	for at := 0; at < len(pairs); at += 2 {
		isKnown[pairs[at]], isNumbers[pairs[at]] = true, pairs[at+1]
	}
	if !slices.Equal(known, isKnown) || !slices.Equal(numbers, isNumbers) {
		t.Errorf("of %sis\n%v %v, not\n%v %v", ir.Print(f), known, numbers, isKnown, isNumbers)
	}
}

// Promise 15.1: the chapter's example: the other way is not there.
func TestExample(t *testing.T) {
	f := main([]api.Ins{number(1), number(1), ins(api.OpEq, api.TypeBool, 0, 1), show(0), number(2), show(4)},
		block(ir.Branch(2, 1, 2), nil, list(0, 1, 2)),
		block(ir.Jump(3), list(0), list(3)),
		block(ir.Jump(3), list(0), list(4, 5)),
		block(ir.Ret(0), list(1, 2), nil))
	facts(t, f, 0, 1, 1, 1, 2, 1)
	want(t, f, main([]api.Ins{number(1), number(1), truth(1), show(0)},
		block(ir.Jump(1), nil, list(0, 1, 2)),
		block(ir.Jump(2), list(0), list(3)),
		block(ir.Ret(0), list(1), nil)))
	// The other way round, of the other end.
	f.Ins[1].N = 2
	facts(t, f, 0, 1, 1, 2, 2, 0, 4, 2)
	want(t, f, main([]api.Ins{number(1), number(2), truth(0), number(2), show(3)},
		block(ir.Jump(1), nil, list(0, 1, 2)),
		block(ir.Jump(2), list(0), list(3, 4)),
		block(ir.Ret(0), list(1), nil)))
}

// Promise 15.1: each operation of what is known is what layer 1 says, of the type that it was of; / and % by 0 are no number, and stay.
func TestOperations(t *testing.T) {
	for _, o := range samples.Operations() {
		var pairs []int64
		for id, x := range o.Is.Ins {
			if x.Op == api.OpConst {
				pairs = append(pairs, int64(id), x.N)
			}
		}
		facts(t, o.F, pairs...)
		want(t, o.F, o.Is)
	}
	// What is made of / by 0 is no number either, but what it is made of may be one.
	facts(t, straight(4, number(1), number(1), ins(api.OpSub, api.TypeInt, 0, 1), ins(api.OpDiv, api.TypeInt, 0, 2), ins(api.OpAdd, api.TypeInt, 3, 3)), 0, 1, 1, 1, 2, 0)
}

// Promise 15.1: what is not made of what is known alone is not known; what is seen, or is of rows, stays as it is.
func TestUnknown(t *testing.T) {
	for op := api.OpAdd; op <= api.OpUlt; op++ {
		is := api.TypeInt
		if arith.Compares(op) {
			is = api.TypeBool
		}
		if !arith.Binary(op) {
			continue
		}
		for _, n := range []int64{0, 1, -1} {
			for _, args := range [][]int{list(0, 1), list(1, 0)} {
				f := straight(0, input(), number(n), ins(op, is, args...))
				facts(t, f, 1, n)
				stays(t, f)
			}
		}
		stays(t, straight(0, input(), ins(op, is, 0, 0)))
	}
	for _, op := range list(api.OpNeg, api.OpNot) {
		stays(t, straight(1, input(), ins(op, api.TypeInt, 0)))
	}
	f := straight(2, number(3), ins(api.OpNew, api.TypeArr, 0), ins(api.OpLen, api.TypeInt, 1))
	facts(t, f, 0, 3)
	stays(t, f)
	stays(t, straight(4, number(3), number(4), ins(api.OpNew2, api.TypeMat, 0, 1), ins(api.OpRows, api.TypeInt, 2), ins(api.OpCols, api.TypeInt, 2)))
	stays(t, straight(3, number(1), ins(api.OpNew, api.TypeArr, 0), ins(api.OpStore, api.TypeVoid, 1, 0, 0), ins(api.OpLoad, api.TypeInt, 1, 0)))
	stays(t, straight(0, number(1), show(0), show(0)))
	// Guards are no ends: what stands behind one that ends the run is known all the same.
	for n := range int64(2) {
		f := straight(2, truth(n), guard(api.TrapIndex, 0), number(7), show(2))
		facts(t, f, 0, n, 2, 7)
		stays(t, f)
	}
	f = straight(2, number(1), param(api.TypeInt, 0), api.Ins{Op: api.OpCall, Type: api.TypeInt, Args: list(0)})
	f.Params = list(api.TypeInt)
	facts(t, f, 0, 1)
	wants(t, f, f)
}

// Promise 15.1: an OpSelect of what is known is what it chooses; of what is not, it is known if both are the same number.
func TestSelects(t *testing.T) {
	for c := range int64(2) {
		chosen := 4 + (1 - c)
		want(t, straight(3, truth(c), number(4), number(5), ins(api.OpSelect, api.TypeInt, 0, 1, 2)), straight(3, truth(c), number(4), number(5), number(chosen)))
		facts(t, straight(3, truth(c), number(4), input(), ins(api.OpSelect, api.TypeInt, 0, 1, 2), ins(api.OpSelect, api.TypeInt, 0, 2, 1)),
			0, c, 1, 4, 4-c, 4)
		stays(t, straight(2, truth(c), input(), ins(api.OpSelect, api.TypeInt, 0, 1, 1)))
		stays(t, straight(1, truth(c), number(4), ins(api.OpNew, api.TypeArr, 1), ins(api.OpNew, api.TypeArr, 1), ins(api.OpSelect, api.TypeArr, 0, 2, 3), ins(api.OpLen, api.TypeInt, 4)))
	}
	less := ins(api.OpLt, api.TypeBool, 0, 0)
	want(t, straight(4, input(), less, number(4), number(4), ins(api.OpSelect, api.TypeInt, 1, 2, 3)), straight(4, input(), less, number(4), number(4), number(4)))
	want(t, straight(0, input(), less, truth(1), ins(api.OpSelect, api.TypeBool, 1, 2, 2)), straight(0, input(), less, truth(1), truth(1)))
	stays(t, straight(4, input(), less, number(4), number(5), ins(api.OpSelect, api.TypeInt, 1, 2, 3)))
	stays(t, straight(0, input(), less, number(4), ins(api.OpSelect, api.TypeInt, 1, 2, 0), ins(api.OpSelect, api.TypeInt, 1, 0, 2), ins(api.OpSelect, api.TypeInt, 1, 0, 0)))
}

// Promise 15.1: an OpPhi is what comes over ways that are gone: one number of them all, or it is not known. As a number it stands behind those that stay.
func TestPhis(t *testing.T) {
	ahead := []api.Ins{input(), number(3), number(3), number(4), ins(api.OpLt, api.TypeBool, 0, 1)}
	f := choice(ahead, 4, phi(api.TypeInt, 1, 2), ins(api.OpAdd, api.TypeInt, 5, 3))
	facts(t, f, 1, 3, 2, 3, 3, 4, 5, 3, 6, 7)
	want(t, f, choice(ahead, 4, number(3), number(7)))
	stays(t, choice(ahead, 4, phi(api.TypeInt, 1, 3), ins(api.OpAdd, api.TypeInt, 5, 3)))
	stays(t, choice(ahead, 4, phi(api.TypeInt, 1, 0)))
	stays(t, choice(ahead, 4, phi(api.TypeInt, 0, 0)))
	// Some among others, which keep their order.
	l := []api.Ins{phi(api.TypeInt, 1, 1), phi(api.TypeInt, 0, 1), phi(api.TypeInt, 3, 3), phi(api.TypeBool, 4, 4), phi(api.TypeInt, 2, 1), show(5), show(6)}
	want(t, choice(ahead, 4, append(slices.Clone(l), ins(api.OpSub, api.TypeInt, 7, 9))...),
		choice(ahead, 4, phi(api.TypeInt, 0, 1), phi(api.TypeBool, 4, 4), number(3), number(4), number(3), show(7), show(5), number(1)))
	// Over one way that is never gone.
	for n := range int64(2) {
		known := append(slices.Clone(ahead[:4]), truth(n))
		f := choice(known, 4, phi(api.TypeInt, 1, 3), phi(api.TypeInt, 0, 2), phi(api.TypeInt, 2, 0), ins(api.OpNeg, api.TypeInt, 5))
		if n == 0 {
			facts(t, f, 1, 3, 2, 3, 3, 4, 4, 0, 5, 4, 6, 3, 8, -4)
		} else {
			facts(t, f, 1, 3, 2, 3, 3, 4, 4, 1, 5, 3, 7, 3, 8, -3)
		}
		stay, is := phi(api.TypeInt, 0), []int64{4, 3, -4}
		if n == 1 {
			is = []int64{3, 3, -3}
		}
		want(t, f, main(append(slices.Clone(known), stay, number(is[0]), number(is[1]), number(is[2])),
			block(ir.Jump(1), nil, upTo(0, 5)), block(ir.Jump(2), list(0), nil), block(ir.Ret(8), list(1), list(5, 6, 7, 8))))
	}
}

// Promise 15.1: as long as nothing speaks against it, a number stays in a loop what it was ahead of it.
func TestLoops(t *testing.T) {
	ahead := []api.Ins{number(1), number(2), input()}
	less := ins(api.OpLt, api.TypeBool, 2, 0)
	// 5 is what 3 is made of once more.
	with := func(body api.Ins) api.Func {
		return round(3, ahead, []api.Ins{phi(api.TypeInt, 0, 5), less}, []api.Ins{body}, 4)
	}
	for _, c := range []struct {
		body  api.Ins
		known bool
	}{
		{ins(api.OpMul, api.TypeInt, 3, 3), true},
		{ins(api.OpSub, api.TypeInt, 1, 3), true},
		{ins(api.OpDiv, api.TypeInt, 3, 0), true},
		{ins(api.OpSelect, api.TypeInt, 4, 3, 0), true},
		{number(1), true},
		{ins(api.OpAdd, api.TypeInt, 3, 3), false},
		{ins(api.OpSub, api.TypeInt, 3, 0), false},
		{ins(api.OpMul, api.TypeInt, 3, 2), false},
		{ins(api.OpSelect, api.TypeInt, 4, 3, 1), false},
		{ins(api.OpInput, api.TypeInt), false},
	} {
		f := with(c.body)
		if c.known {
			facts(t, f, 0, 1, 1, 2, 3, 1, 5, 1)
			want(t, f, round(3, ahead, []api.Ins{number(1), less}, []api.Ins{number(1)}, 4))
		} else {
			facts(t, f, 0, 1, 1, 2)
			stays(t, f)
		}
	}
	facts(t, with(number(2)), 0, 1, 1, 2, 5, 2)
	// One that is itself; two that are each other.
	facts(t, round(3, ahead, []api.Ins{phi(api.TypeInt, 1, 3), less}, nil, 4), 0, 1, 1, 2, 3, 2)
	facts(t, round(3, ahead, []api.Ins{phi(api.TypeInt, 0, 4), phi(api.TypeInt, 0, 3), less}, nil, 5), 0, 1, 1, 2, 3, 1, 4, 1)
	facts(t, round(3, ahead, []api.Ins{phi(api.TypeInt, 0, 4), phi(api.TypeInt, 1, 3), less}, nil, 5), 0, 1, 1, 2)
}

// Promise 15.1: a way within a loop that is never gone as long as a number stays what it is: the number and the way hang on each other.
func TestWaysInLoops(t *testing.T) {
	// x = 1; while input < 1 { if x != 1 { x = 2 } }; what block 3 makes of x is told.
	f := func(x int) api.Func {
		return main([]api.Ins{number(1), phi(api.TypeInt, 0, 7), input(), ins(api.OpLt, api.TypeBool, 2, 0), ins(api.OpNe, api.TypeBool, 1, x), number(2), ins(api.OpAdd, api.TypeInt, 5, 1), phi(api.TypeInt, 1, 6), show(7)},
			block(ir.Jump(1), nil, list(0)),
			block(ir.Branch(3, 2, 5), list(0, 4), list(1, 2, 3)),
			block(ir.Branch(4, 3, 4), list(1), list(4)),
			block(ir.Jump(4), list(2), list(5, 6)),
			block(ir.Jump(1), list(2, 3), list(7, 8)),
			block(ir.Ret(1), list(1), nil))
	}
	facts(t, f(0), 0, 1, 1, 1, 4, 0, 7, 1)
	want(t, f(0), main([]api.Ins{number(1), number(1), input(), ins(api.OpLt, api.TypeBool, 2, 0), truth(0), number(1), show(5)},
		block(ir.Jump(1), nil, list(0)),
		block(ir.Branch(3, 2, 4), list(0, 3), list(1, 2, 3)),
		block(ir.Jump(3), list(1), list(4)),
		block(ir.Jump(1), list(2), list(5, 6)),
		block(ir.Ret(1), list(1), nil)))
	// Once it may be gone, it is gone, and x is what it is.
	facts(t, f(2), 0, 1, 5, 2)
	stays(t, f(2))
	// Into the loop nobody comes; out of it nobody comes.
	g := f(2)
	g.Ins[3] = ins(api.OpLt, api.TypeBool, 0, 0)
	facts(t, g, 0, 1, 1, 1, 3, 0)
	want(t, g, main([]api.Ins{number(1), number(1), input(), truth(0)}, block(ir.Jump(1), nil, list(0)), block(ir.Jump(2), list(0), list(1, 2, 3)), block(ir.Ret(1), list(1), nil)))
	g.Ins[3] = ins(api.OpLe, api.TypeBool, 0, 0)
	facts(t, g, 0, 1, 3, 1, 5, 2)
	want(t, g, main([]api.Ins{number(1), phi(api.TypeInt, 0, 7), input(), truth(1), ins(api.OpNe, api.TypeBool, 1, 2), number(2), ins(api.OpAdd, api.TypeInt, 5, 1), phi(api.TypeInt, 1, 6), show(7)},
		block(ir.Jump(1), nil, list(0)),
		block(ir.Jump(2), list(0, 4), list(1, 2, 3)),
		block(ir.Branch(4, 3, 4), list(1), list(4)),
		block(ir.Jump(4), list(2), list(5, 6)),
		block(ir.Jump(1), list(2, 3), list(7, 8))))
}

// Promise 15.1: of what nobody comes to nothing is known, be it a number by itself; a block stays that is come to over another way, and what comes over that.
func TestNeverCome(t *testing.T) {
	// 0 goes to 1 or 2, 1 to 3, 2 to 3 or 4, 3 to 4.
	f := func(c int64) api.Func {
		return main([]api.Ins{truth(c), input(), number(8), number(9), phi(api.TypeInt, 3, 2), ins(api.OpLt, api.TypeBool, 1, 1), phi(api.TypeInt, 3, 4)},
			block(ir.Branch(0, 1, 2), nil, list(0, 1)),
			block(ir.Jump(3), list(0), list(2)),
			block(ir.Branch(5, 3, 4), list(0), list(3, 5)),
			block(ir.Jump(4), list(2, 1), list(4)),
			block(ir.Ret(6), list(2, 3), list(6)))
	}
	facts(t, f(1), 0, 1, 2, 8, 4, 8, 6, 8)
	want(t, f(1), main([]api.Ins{truth(1), input(), number(8), number(8), number(8)},
		block(ir.Jump(1), nil, list(0, 1)), block(ir.Jump(2), list(0), list(2)), block(ir.Jump(3), list(1), list(3)), block(ir.Ret(4), list(2), list(4))))
	facts(t, f(0), 0, 0, 3, 9, 4, 9, 6, 9)
	want(t, f(0), main([]api.Ins{truth(0), input(), number(9), ins(api.OpLt, api.TypeBool, 1, 1), number(9), number(9)},
		block(ir.Jump(1), nil, list(0, 1)),
		block(ir.Branch(3, 2, 3), list(0), list(2, 3)),
		block(ir.Jump(3), list(1), list(4)),
		block(ir.Ret(5), list(1, 2), list(5))))
	// Both go to one, of which one stays; what comes over it is not known.
	g := main([]api.Ins{input(), truth(0), ins(api.OpLt, api.TypeBool, 0, 0), number(5), phi(api.TypeInt, 3, 0, 3), phi(api.TypeInt, 0, 3, 0), ins(api.OpSub, api.TypeInt, 4, 5)},
		block(ir.Branch(2, 1, 2), nil, list(0, 1, 2, 3)),
		block(ir.Branch(1, 4, 3), list(0), nil),
		block(ir.Branch(2, 3, 4), list(0), nil),
		block(ir.Jump(4), list(2, 1), nil),
		block(ir.Ret(6), list(1, 3, 2), list(4, 5, 6)))
	facts(t, g, 1, 0, 3, 5)
	want(t, g, main([]api.Ins{input(), truth(0), ins(api.OpLt, api.TypeBool, 0, 0), number(5), phi(api.TypeInt, 0, 3), phi(api.TypeInt, 3, 0), ins(api.OpSub, api.TypeInt, 4, 5)},
		block(ir.Branch(2, 1, 2), nil, list(0, 1, 2, 3)),
		block(ir.Jump(3), list(0), nil),
		block(ir.Branch(2, 3, 4), list(0), nil),
		block(ir.Jump(4), list(2, 1), nil),
		block(ir.Ret(6), list(3, 2), list(4, 5, 6))))
}

// A function that comes to nothing, with its name, arguments and types as they were.
func TestNothing(t *testing.T) {
	f := api.Func{Name: "f", Params: list(api.TypeInt, api.TypeMat), Ins: []api.Ins{param(api.TypeInt, 0), param(api.TypeMat, 1), truth(1), ins(api.OpFlip, api.TypeBool, 2)},
		Blocks: []api.Block{block(ir.Branch(3, 1, 2), nil, list(0, 1, 2, 3)), block(ir.Ret(-1), list(0), nil), block(ir.Ret(-1), list(0), nil)}}
	is := api.Func{Name: "f", Params: list(api.TypeInt, api.TypeMat), Ins: []api.Ins{param(api.TypeInt, 0), param(api.TypeMat, 1), truth(1), truth(0)},
		Blocks: []api.Block{block(ir.Jump(1), nil, list(0, 1, 2, 3)), block(ir.Ret(-1), list(0), nil)}}
	facts(t, f, 2, 1, 3, 0)
	wants(t, f, is)
	for _, f := range []api.Func{{}, {Name: "f", Ret: api.TypeArr, Params: list(api.TypeInt)}} {
		facts(t, f)
		if got := Func(f); !reflect.DeepEqual(got, f) {
			t.Errorf("%+v", got)
		}
	}
}

// Promise 15.1: what stands in no block is not known, and is gone.
func TestNowhere(t *testing.T) {
	f := straight(1, api.Ins{}, number(3), api.Ins{})
	f.Blocks[0].List = list(1)
	facts(t, f, 1, 3)
	want(t, f, straight(0, number(3)))
}

// R1: what of a function is not there, or is as it may not be, is no fault of the call.
func TestUnsound(t *testing.T) {
	loose := []api.Ins{ins(api.OpSelect, api.TypeInt), ins(api.OpSelect, api.TypeInt, 9), ins(api.OpSelect, api.TypeInt, 8, 9), ins(api.OpGuard, 0), ins(api.OpAdd, api.TypeInt), ins(api.OpAdd, api.TypeInt, 8),
		ins(api.OpNeg, api.TypeInt), phi(api.TypeInt), truth(1), ins(api.OpSelect, api.TypeInt, 8, 9, 9), ins(api.OpSelect, api.TypeInt, 8, 11, 11), ins(api.OpSelect, api.TypeInt, 8, 10, 10),
		phi(api.TypeInt, 12, 12), phi(api.TypeInt, 14), phi(api.TypeInt, 13), phi(api.TypeInt, -1, 99), ins(api.OpAdd, api.TypeInt, -1, math.MaxInt), {}}
	unsound(t, straight(-1, loose...))
	unsound(t, straight(11, loose...))
	f := straight(0, number(1), ins(api.OpNeg, api.TypeInt, 0))
	f.Blocks[0].Term = ir.Jump(5)
	unsound(t, f)
	f.Blocks[0].List = list(-1, 0, 0, 1, 1, 7)
	f.Blocks[0].Preds = list(0, -1, 5, 0)
	for _, to := range [][]int{nil, list(0), list(0, 0), list(-1, 5), list(5, 0, 0), list(math.MinInt, math.MaxInt)} {
		for _, arg := range list(-7, 0, 1, 9) {
			f.Blocks[0].Term = api.Term{Kind: api.TermBranch, Arg: arg, To: to}
			unsound(t, f)
		}
	}
}

// unsound asks what holds of all functions.
func unsound(t *testing.T, f api.Func) {
	t.Helper()
	pass.Unsound(t, f)
	before := ir.Clone(f)
	known, numbers := Facts(f)
	if len(known) != len(f.Ins) || len(numbers) != len(f.Ins) || !ir.Same(f, before) {
		t.Fatal(len(known), len(numbers), ir.Print(before), ir.Print(f))
	}
	for id := range known {
		if !known[id] && numbers[id] != 0 {
			t.Errorf("%d of %s", numbers[id], ir.Print(f))
		}
	}
}

// R2, R4: what is done to an answer changes nothing, neither what was handed in nor another list of it; the same calls answer the same.
func TestOwn(t *testing.T) {
	f := choice([]api.Ins{input(), truth(1), number(2), ins(api.OpNe, api.TypeBool, 0, 2)}, 3, phi(api.TypeInt, 0, 2), phi(api.TypeInt, 2, 2), phi(api.TypeInt, 2, 0), ins(api.OpSub, api.TypeInt, 4, 5))
	f.Params = list(api.TypeInt)
	f.Blocks[1].Term = ir.Branch(1, 3, 2)
	f.Blocks[2].Preds = list(0, 1)
	if wrong := samples.Shares(Func, f); wrong != "" {
		t.Error(wrong)
	}
	known, numbers := Facts(f)
	was := slices.Clone(known)
	samples.Spoil(f)
	clear(numbers)
	if !slices.Equal(known, was) {
		t.Error(known, was)
	}
}
