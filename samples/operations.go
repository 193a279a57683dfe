package samples

import (
	"math"

	"distaff/api"
	"distaff/arith"
)

// Operation is a main with an operation of known numbers, and that with what it comes to, if it comes to something.
type Operation struct{ F, Is api.Func }

// edges are numbers at which operations differ.
func edges() []int64 {
	return []int64{0, 1, 2, 3, -1, -2, 7, -7, 63, 64, 65, 1 << 31, 1 << 62, math.MaxInt64, math.MinInt64, math.MinInt64 + 1}
}

// Operations is each operation of layer 1, of numbers and of truths, as they may be.
func Operations() []Operation {
	var out []Operation
	for op := api.OpAdd; op <= api.OpFlip; op++ {
		for _, a := range edges() {
			switch {
			case op == api.OpFlip:
			case arith.Unary(op):
				n, ok := arith.One(op, a)
				out = append(out, operation(op, n, ok, Number(a)))
			default:
				for _, b := range edges() {
					n, ok := arith.Do(op, a, b)
					out = append(out, operation(op, n, ok, Number(a), Number(b)))
				}
			}
		}
	}
	for a := range int64(2) {
		out = append(out, operation(api.OpFlip, 1-a, true, Truth(a)))
		for b := range int64(2) {
			out = append(out, operation(api.OpEq, 1-a^b, true, Truth(a), Truth(b)), operation(api.OpNe, a^b, true, Truth(a), Truth(b)))
		}
	}
	return out
}

func operation(op int, n int64, ok bool, of ...api.Ins) Operation {
	is := api.TypeInt
	if arith.Compares(op) {
		is = api.TypeBool
	}
	with := func(x api.Ins) api.Func {
		l := append([]api.Ins{Number(4)}, of...)
		return Straight(0, append(l, x)...)
	}
	out := Operation{F: with(Ins(op, is, UpTo(1, 1+len(of))...))}
	out.Is = out.F
	if ok {
		out.Is = with(api.Ins{Op: api.OpConst, Type: is, N: n})
	}
	return out
}

// OfEach is a main with something of each type, from 2 on: two numbers that are read, two truths, two rows, two rows of rows; then come the instructions that are told, from 10 on.
func OfEach(l ...api.Ins) api.Func {
	return Straight(2, append([]api.Ins{Number(3), Number(4), Input(), Input(), Ins(api.OpLt, api.TypeBool, 2, 3), Ins(api.OpLe, api.TypeBool, 2, 3),
		Ins(api.OpNew, api.TypeArr, 0), Ins(api.OpNew, api.TypeArr, 0), Ins(api.OpNew2, api.TypeMat, 0, 1), Ins(api.OpNew2, api.TypeMat, 0, 1)}, l...)...)
}

// Computing is each instruction that only computes, of what OfEach has.
func Computing() []api.Ins {
	l := []api.Ins{Number(8), Number(math.MinInt64), Truth(0), Truth(1), Ins(api.OpNeg, api.TypeInt, 2), Ins(api.OpNeg, api.TypeInt, 3), Ins(api.OpNot, api.TypeInt, 2),
		Ins(api.OpFlip, api.TypeBool, 4), Ins(api.OpFlip, api.TypeBool, 5), Ins(api.OpEq, api.TypeBool, 4, 5), Ins(api.OpNe, api.TypeBool, 4, 5), Ins(api.OpEq, api.TypeBool, 4, 4),
		Ins(api.OpLen, api.TypeInt, 6), Ins(api.OpLen, api.TypeInt, 7), Ins(api.OpRows, api.TypeInt, 8), Ins(api.OpRows, api.TypeInt, 9), Ins(api.OpCols, api.TypeInt, 8)}
	for _, args := range [][]int{{4, 2, 3}, {4, 3, 2}, {5, 2, 3}, {4, 2, 2}} {
		l = append(l, Ins(api.OpSelect, api.TypeInt, args...))
	}
	l = append(l, Ins(api.OpSelect, api.TypeBool, 4, 4, 5), Ins(api.OpSelect, api.TypeArr, 4, 6, 7), Ins(api.OpSelect, api.TypeMat, 4, 8, 9))
	for op := api.OpAdd; op <= api.OpUlt; op++ {
		is := api.TypeInt
		if arith.Compares(op) {
			is = api.TypeBool
		}
		if arith.Binary(op) {
			l = append(l, Ins(op, is, 0, 1), Ins(op, is, 1, 0), Ins(op, is, 0, 0), Ins(op, is, 2, 1))
		}
	}
	return l
}
