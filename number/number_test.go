package number

import (
	"math"
	"reflect"
	"strconv"
	"testing"

	"distaff/api"
	"distaff/arith"
	"distaff/dom"
	"distaff/ir"
	"distaff/samples"
)

// Short names of what makes functions.
var (
	list, upTo, block              = samples.List, samples.UpTo, samples.Block
	ins, number, truth, param, phi = samples.Ins, samples.Number, samples.Truth, samples.Param, samples.Phi
	guard, show, input, main       = samples.Guard, samples.Show, samples.Input, samples.Main
	straight, choice, round        = samples.Straight, samples.Choice, samples.Round
	ofEach, computing              = samples.OfEach, samples.Computing
	fine                           = samples.Fine
)

// The pass: nothing is computed again.
var pass = samples.Pass{Func: Func, Wrong: func(got api.Func) string {
	if a, b, found := twice(got); found {
		return strconv.Itoa(b) + " is " + strconv.Itoa(a)
	}
	return ""
}}

// Short names of what is asked of it.
var answer, want, wants, stays, unsound = pass.Answer, pass.Want, pass.Wants, pass.Stays, pass.Unsound

// told is a text that two instructions share, if they compute the same; none: it does not only compute.
func told(x api.Ins) string {
	text := func(op int, args []int) string {
		out := strconv.Itoa(op) + " " + strconv.Itoa(x.Type) + " " + strconv.FormatInt(x.N, 10) + ":"
		for _, a := range args {
			out += " " + strconv.Itoa(a)
		}
		return out
	}
	if !(ir.Pure(x.Op) && x.Op != api.OpPhi || x.Op == api.OpDiv || x.Op == api.OpRem) {
		return ""
	}
	out := text(x.Op, x.Args)
	if op, turns := arith.Turned(x.Op); turns && len(x.Args) == 2 {
		out = min(out, text(op, list(x.Args[1], x.Args[0])))
	}
	return out
}

// twice finds an instruction that computes the same as one that stands over it.
func twice(f api.Func) (over, id int, found bool) {
	tree := dom.New(f)
	type place struct{ block, at, id int }
	places := map[string][]place{}
	for b, k := range f.Blocks {
		for at, id := range k.List {
			what := told(f.Ins[id])
			if what == "" {
				continue
			}
			for _, o := range places[what] {
				if tree.Over(o.block, b) && (o.block != b || o.at < at) {
					return o.id, id, true
				}
				if tree.Over(b, o.block) {
					return id, o.id, true
				}
			}
			places[what] = append(places[what], place{b, at, id})
		}
	}
	return 0, 0, false
}

// Promise 16.1: the chapter's example; what was made of what goes is made of what is left.
func TestExample(t *testing.T) {
	sum := ins(api.OpAdd, api.TypeInt, 0, 1)
	want(t, straight(4, input(), input(), sum, sum, ins(api.OpMul, api.TypeInt, 2, 3)), straight(3, input(), input(), sum, ins(api.OpMul, api.TypeInt, 2, 2)))
	want(t, straight(3, input(), input(), sum, sum), straight(2, input(), input(), sum))
	want(t, straight(2, input(), input(), sum, show(2), sum, show(4), sum, show(6)), straight(2, input(), input(), sum, show(2), show(2), show(2)))
}

// Promise 16.1: each operation that only computes goes, if it computes the same; and stays, if it is of another Op, type, number, or of other Args.
func TestEach(t *testing.T) {
	for _, x := range computing() {
		want(t, ofEach(x, x, x), ofEach(x))
		for _, y := range computing() {
			f := ofEach(x, y)
			if told(x) == told(y) {
				want(t, f, ofEach(x))
			} else {
				stays(t, f)
			}
		}
	}
}

// Promise 16.1: in the other order, with the operation turned; of which there is none it stays in the other order.
func TestTurned(t *testing.T) {
	turned := map[int]int{api.OpAdd: api.OpAdd, api.OpMul: api.OpMul, api.OpAnd: api.OpAnd, api.OpOr: api.OpOr, api.OpXor: api.OpXor,
		api.OpEq: api.OpEq, api.OpNe: api.OpNe, api.OpLt: api.OpGt, api.OpGt: api.OpLt, api.OpLe: api.OpGe, api.OpGe: api.OpLe}
	of := func(op, a, b int) api.Ins {
		if arith.Compares(op) {
			return ins(op, api.TypeBool, a, b)
		}
		return ins(op, api.TypeInt, a, b)
	}
	for op := api.OpAdd; op <= api.OpUlt; op++ {
		for other := api.OpAdd; arith.Binary(op) && other <= api.OpUlt; other++ {
			if !arith.Binary(other) {
				continue
			}
			for _, args := range [][]int{{0, 1}, {1, 0}, {1, 1}} {
				a, b := args[0], args[1]
				f, one := straight(0, input(), input(), of(op, a, b), of(other, b, a)), straight(0, input(), input(), of(op, a, b))
				if turned[op] == other || a == b && op == other {
					want(t, f, one)
				} else {
					stays(t, f)
				}
			}
		}
	}
	for _, op := range list(api.OpEq, api.OpNe) {
		want(t, ofEach(ins(op, api.TypeBool, 5, 4), ins(op, api.TypeBool, 4, 5)), ofEach(ins(op, api.TypeBool, 5, 4)))
	}
	// Turned only by what is left: one of what goes is one of what it was.
	less, more := ins(api.OpLt, api.TypeBool, 0, 2), ins(api.OpGt, api.TypeBool, 3, 0)
	want(t, straight(1, number(7), input(), ins(api.OpNeg, api.TypeInt, 1), ins(api.OpNeg, api.TypeInt, 1), less, more, show(5)),
		straight(1, number(7), input(), ins(api.OpNeg, api.TypeInt, 1), less, show(3)))
}

// Promise 16.1: arguments are computed, too: one of the same number and type goes.
func TestParams(t *testing.T) {
	of := func(l ...api.Ins) api.Func {
		return api.Func{Name: "f", Params: list(api.TypeInt, api.TypeInt, api.TypeArr), Ins: l, Blocks: []api.Block{block(ir.Ret(-1), nil, upTo(0, len(l)))}}
	}
	wants(t, of(param(api.TypeInt, 0), param(api.TypeInt, 1), param(api.TypeArr, 2), param(api.TypeInt, 0), param(api.TypeArr, 2), show(3), ins(api.OpLen, api.TypeInt, 4)),
		of(param(api.TypeInt, 0), param(api.TypeInt, 1), param(api.TypeArr, 2), show(0), ins(api.OpLen, api.TypeInt, 2)))
}

// Promise 16.1: what is seen stays, however often it is done of the same; so does an OpPhi.
func TestStays(t *testing.T) {
	for _, x := range []api.Ins{input(), show(2), show(4), guard(1, 4), guard(2, 5), ins(api.OpNew, api.TypeArr, 0), ins(api.OpNew2, api.TypeMat, 0, 1),
		ins(api.OpStore, api.TypeVoid, 6, 0, 2), ins(api.OpStore, api.TypeVoid, 8, 0, 2)} {
		stays(t, ofEach(x, x, x))
	}
	f := straight(1, number(1), ins(api.OpCall, api.TypeInt, 0), ins(api.OpCall, api.TypeInt, 0), ins(api.OpSub, api.TypeInt, 1, 2))
	f.Params = list(api.TypeInt)
	wants(t, f, f)
	ahead := []api.Ins{input(), input(), ins(api.OpLt, api.TypeBool, 0, 1)}
	stays(t, choice(ahead, 2, phi(api.TypeInt, 0, 1), phi(api.TypeInt, 0, 1), ins(api.OpSub, api.TypeInt, 3, 4)))
	stays(t, choice(ahead, 2, phi(api.TypeInt, 0, 0), phi(api.TypeInt, 0, 0), ins(api.OpSub, api.TypeInt, 3, 4)))
}

// Promise 16.1: what goes may be an Arg of an OpPhi, or what an end goes by.
func TestUses(t *testing.T) {
	sum, less := ins(api.OpAdd, api.TypeInt, 0, 1), ins(api.OpLt, api.TypeBool, 0, 1)
	want(t, choice([]api.Ins{input(), input(), sum, sum, less, less}, 5, phi(api.TypeInt, 2, 3), phi(api.TypeInt, 3, 0), ins(api.OpSub, api.TypeInt, 6, 7), ins(api.OpSub, api.TypeInt, 6, 7)),
		choice([]api.Ins{input(), input(), sum, less}, 3, phi(api.TypeInt, 2, 2), phi(api.TypeInt, 2, 0), ins(api.OpSub, api.TypeInt, 4, 5)))
	// What comes back to a loop's head stands behind it.
	want(t, round(3, []api.Ins{input(), input()}, []api.Ins{phi(api.TypeInt, 0, 6), ins(api.OpAdd, api.TypeInt, 2, 1), ins(api.OpLt, api.TypeBool, 2, 1)}, []api.Ins{ins(api.OpAdd, api.TypeInt, 1, 2), ins(api.OpAdd, api.TypeInt, 1, 2)}, 4),
		round(3, []api.Ins{input(), input()}, []api.Ins{phi(api.TypeInt, 0, 3), ins(api.OpAdd, api.TypeInt, 2, 1), ins(api.OpLt, api.TypeBool, 2, 1)}, nil, 4))
}

// sides is a main whose first block goes to two others, both to the last one; the first block has two numbers, and asks which is less.
func sides(lists ...[]api.Ins) api.Func {
	return filled(choice([]api.Ins{input(), input(), ins(api.OpLt, api.TypeBool, 0, 1)}, 2), 0, lists...)
}

// filled is a choice that returns another instruction, each block with some more behind what it has.
func filled(f api.Func, back int, lists ...[]api.Ins) api.Func {
	f.Blocks[3].Term.Arg = back
	for b, l := range lists {
		for _, x := range l {
			f.Blocks[b].List = append(f.Blocks[b].List, len(f.Ins))
			f.Ins = append(f.Ins, x)
		}
	}
	return f
}

// Promise 16.1: what a block over others computes is not computed there; what one side computes is computed again on the other one, and behind both.
func TestSides(t *testing.T) {
	sum, none := []api.Ins{ins(api.OpAdd, api.TypeInt, 0, 1)}, []api.Ins{}
	for _, c := range [][2][][]api.Ins{
		{{sum, sum, sum, sum}, {sum, none, none, none}},
		{{none, sum, sum, sum}, {none, sum, sum, sum}},
		{{none, append(sum, sum...), sum, none}, {none, sum, sum, none}},
		{{none, sum, none, append(sum, sum...)}, {none, sum, none, sum}},
		{{sum, none, sum, none}, {sum, none, none, none}},
		{{sum, none, none, sum}, {sum, none, none, none}},
		{{none, none, sum, sum}, {none, none, sum, sum}},
	} {
		want(t, sides(c[0]...), sides(c[1]...))
	}
	// The test itself, on both sides; what is made of it there goes with it as far as it stands under what is made of it.
	more := ins(api.OpGt, api.TypeBool, 1, 0)
	want(t, sides(none, []api.Ins{more, ins(api.OpFlip, api.TypeBool, 3)}, []api.Ins{more, ins(api.OpFlip, api.TypeBool, 5)}, []api.Ins{more, ins(api.OpFlip, api.TypeBool, 7)}),
		sides(none, []api.Ins{ins(api.OpFlip, api.TypeBool, 2)}, []api.Ins{ins(api.OpFlip, api.TypeBool, 2)}, []api.Ins{ins(api.OpFlip, api.TypeBool, 2)}))
}

// Promise 16.1: under one side it is what that side computed, and not what the other one did.
func TestUnderSides(t *testing.T) {
	// 0 goes to 1 or 2, both go to one of two others: 3 and 4, 5 and 6.
	sum := ins(api.OpAdd, api.TypeInt, 0, 1)
	f := func(at ...int) api.Func {
		f := main([]api.Ins{input(), input(), ins(api.OpLt, api.TypeBool, 0, 1)}, block(ir.Branch(2, 1, 2), nil, list(0, 1, 2)),
			block(ir.Branch(2, 3, 4), list(0), nil), block(ir.Branch(2, 5, 6), list(0), nil),
			block(ir.Ret(0), list(1), nil), block(ir.Ret(0), list(1), nil), block(ir.Ret(0), list(2), nil), block(ir.Ret(0), list(2), nil))
		for _, b := range at {
			f.Blocks[b].List = append(f.Blocks[b].List, len(f.Ins))
			f.Blocks[b].Term.Arg = len(f.Ins)
			f.Ins = append(f.Ins, sum)
			if b < 3 {
				f.Blocks[b].Term.Arg = 2
			}
		}
		return f
	}
	is := f(1, 2)
	for b := 3; b < 7; b++ {
		is.Blocks[b].Term.Arg = 3 + (b-3)/2
	}
	want(t, f(1, 2, 3, 4, 5, 6), is)
	stays(t, f(3, 4, 5, 6))
	is = f(1, 5, 6)
	is.Blocks[3].Term.Arg, is.Blocks[4].Term.Arg = 3, 3
	want(t, f(1, 3, 4, 5, 6), is)
	is = f(2, 3, 4)
	is.Blocks[5].Term.Arg, is.Blocks[6].Term.Arg = 3, 3
	want(t, f(2, 3, 4, 5, 6), is)
}

// Promise 16.1: so it is where nothing is computed ahead of the sides.
func TestSidesAlone(t *testing.T) {
	sum := ins(api.OpAdd, api.TypeInt, 0, 1)
	f := main([]api.Ins{input(), input(), {Op: api.OpCall, Type: api.TypeBool, To: 1}, sum, sum},
		block(ir.Branch(2, 1, 2), nil, list(0, 1, 2)), block(ir.Ret(3), list(0), list(3)), block(ir.Ret(4), list(0), list(4)))
	wants(t, f, f)
}

// Promise 16.1: a loop's head stands over its body, and over what comes behind; its body over neither.
func TestLoops(t *testing.T) {
	ahead := []api.Ins{input(), input()}
	head := func(l ...api.Ins) []api.Ins {
		return append([]api.Ins{phi(api.TypeInt, 0, 1), ins(api.OpLt, api.TypeBool, 2, 1)}, l...)
	}
	next := ins(api.OpAdd, api.TypeInt, 2, 1)
	want(t, round(5, ahead, head(next, next), []api.Ins{next, next}, 3), round(4, ahead, head(next), nil, 3))
	want(t, round(2, ahead, head(), []api.Ins{next, next, ins(api.OpGt, api.TypeBool, 1, 2), ins(api.OpFlip, api.TypeBool, 6)}, 3), round(2, ahead, head(), []api.Ins{next, ins(api.OpFlip, api.TypeBool, 3)}, 3))
	// What the body computes, the head does, too, and what comes behind the loop.
	same := ins(api.OpAdd, api.TypeInt, 0, 1)
	want(t, round(4, ahead, head(same), []api.Ins{same}, 3), round(4, ahead, head(same), nil, 3))
	f := round(5, ahead, head(), []api.Ins{same, same}, 3)
	f.Blocks[2].List, f.Blocks[3].List = list(4), list(5)
	stays(t, f)
	// Ahead of it: neither does.
	want(t, round(4, append(ahead, same), []api.Ins{phi(api.TypeInt, 0, 6), ins(api.OpAdd, api.TypeInt, 1, 0), ins(api.OpLt, api.TypeBool, 3, 4)}, []api.Ins{same}, 5),
		round(2, append(ahead, same), []api.Ins{phi(api.TypeInt, 0, 2), ins(api.OpLt, api.TypeBool, 3, 2)}, nil, 4))
}

// Promise 16.1: blocks, and instructions, may have numbers in any order: what stands over another one counts.
func TestAnyOrder(t *testing.T) {
	// 0 goes to 2, that to 1.
	f := main([]api.Ins{ins(api.OpMul, api.TypeInt, 4, 4), show(0), ins(api.OpMul, api.TypeInt, 4, 4), show(2), input()},
		block(ir.Jump(2), nil, list(4)), block(ir.Ret(0), list(2), list(0, 1)), block(ir.Jump(1), list(0), list(2, 3)))
	want(t, f, main([]api.Ins{input(), show(2), ins(api.OpMul, api.TypeInt, 0, 0), show(2)},
		block(ir.Jump(2), nil, list(0)), block(ir.Ret(2), list(2), list(1)), block(ir.Jump(1), list(0), list(2, 3))))
}

// Functions that come to nothing, or have nothing, with names, arguments and types as they were.
func TestNothing(t *testing.T) {
	for _, f := range []api.Func{{}, {Name: "f", Ret: api.TypeArr, Params: list(api.TypeInt)}} {
		if got := Func(f); !reflect.DeepEqual(got, f) {
			t.Errorf("%+v", got)
		}
	}
	f := api.Func{Name: "f", Params: list(api.TypeInt, api.TypeMat), Blocks: []api.Block{block(ir.Ret(-1), nil, nil)}}
	wants(t, f, f)
	// What stands nowhere computes nothing.
	f = straight(1, number(3), number(3))
	f.Blocks[0].List = list(1)
	wants(t, f, straight(0, number(3)))
	// Nor does what nobody comes to, even if it leads to what is come to.
	f = straight(0, number(3))
	f.Ins = append(f.Ins, number(3))
	f.Blocks = append(f.Blocks, block(ir.Jump(0), nil, list(1)))
	f.Blocks[0].Preds = list(1)
	wants(t, f, straight(0, number(3)))
}

// R1: what of a function is not there, or is as it may not be, is no fault of the call.
func TestUnsound(t *testing.T) {
	unsound(t, straight(-1, ins(api.OpSelect, api.TypeInt), ins(api.OpSelect, api.TypeInt, 9), ins(api.OpAdd, api.TypeInt), ins(api.OpAdd, api.TypeInt, 8), ins(api.OpAdd, api.TypeInt, 8, 8, 8),
		ins(api.OpAdd, api.TypeInt, 1, 2, 3, 4, 5), ins(api.OpLoad, api.TypeInt), ins(api.OpLoad, api.TypeInt, 1, 2, 3, 4), ins(api.OpNeg, api.TypeInt, -1), ins(api.OpNeg, api.TypeInt, math.MaxInt),
		ins(api.OpNeg, api.TypeInt, math.MinInt), ins(api.OpNot, api.TypeInt, 11), ins(api.OpNot, api.TypeInt, 13), ins(api.OpNot, api.TypeInt, 12), phi(api.TypeInt, -1, 99), api.Ins{}, api.Ins{Op: -5}, api.Ins{Op: 99}))
	f := straight(0, number(1), number(1), ins(api.OpNeg, api.TypeInt, 0))
	f.Blocks[0].List = list(-1, 0, 0, 1, 1, 7, 2, 2)
	f.Blocks[0].Preds = list(0, -1, 5, 0)
	for _, to := range [][]int{nil, list(0), list(0, 0), list(-1, 5), list(5, 0, 0), list(math.MinInt, math.MaxInt)} {
		for kind := range 5 {
			for _, arg := range list(-7, 0, 1, 9) {
				f.Blocks[0].Term = api.Term{Kind: kind, Arg: arg, To: to}
				unsound(t, f)
			}
		}
	}
	// What is of more, or fewer, than it may be is not the same.
	l := []api.Ins{input(), ins(api.OpNeg, api.TypeInt), ins(api.OpNeg, api.TypeInt, 0), ins(api.OpNeg, api.TypeInt, 0, 0), ins(api.OpNeg, api.TypeInt, 0, 0, 0), ins(api.OpNeg, api.TypeInt, 0, 0, 0, 0),
		ins(api.OpAdd, api.TypeInt, 0, 1, 2), ins(api.OpAdd, api.TypeInt, 1, 0, 2), ins(api.OpAdd, api.TypeInt, 2, 1, 0)}
	wants(t, straight(0, l...), straight(0, l...))
	// One that stands twice is computed twice.
	f = straight(2, number(1), number(1), ins(api.OpNeg, api.TypeInt, 0))
	f.Blocks[0].List = list(0, 1, 0, 2, 2, 1)
	wants(t, f, straight(1, number(1), ins(api.OpNeg, api.TypeInt, 0)))
}

// R2, R4: what is done to an answer changes nothing, neither what was handed in nor another list of it; the same calls answer the same.
func TestOwn(t *testing.T) {
	f := choice([]api.Ins{input(), input(), number(2), number(2), ins(api.OpNe, api.TypeBool, 0, 3), ins(api.OpNe, api.TypeBool, 2, 0)}, 5,
		phi(api.TypeInt, 0, 3), phi(api.TypeInt, 2, 3), ins(api.OpSub, api.TypeInt, 6, 7), ins(api.OpSub, api.TypeInt, 6, 7))
	f.Params = list(api.TypeInt)
	if wrong := samples.Shares(Func, f); wrong != "" {
		t.Error(wrong)
	}
}
