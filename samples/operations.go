package samples

import (
	"math"

	"distaff/api"
	"distaff/arith"
)

// Operation is a main with an operation of known numbers, and that with what it comes to, if it comes to something.
type Operation struct{ F, Is api.Func }

// edges are numbers at which operations differ.
func edges() []int64 {
	return []int64{0, 1, 2, 3, -1, -2, 7, -7, 63, 64, 65, 1 << 31, 1 << 62, math.MaxInt64, math.MinInt64, math.MinInt64 + 1}
}

// Operations is each operation of layer 1, of numbers and of truths, as they may be.
func Operations() []Operation {
	var out []Operation
	for op := api.OpAdd; op <= api.OpFlip; op++ {
		for _, a := range edges() {
			switch {
			case op == api.OpFlip:
			case arith.Unary(op):
				n, ok := arith.One(op, a)
				out = append(out, operation(op, n, ok, Number(a)))
			default:
				for _, b := range edges() {
					n, ok := arith.Do(op, a, b)
					out = append(out, operation(op, n, ok, Number(a), Number(b)))
				}
			}
		}
	}
	for a := range int64(2) {
		out = append(out, operation(api.OpFlip, 1-a, true, Truth(a)))
		for b := range int64(2) {
			out = append(out, operation(api.OpEq, 1-a^b, true, Truth(a), Truth(b)), operation(api.OpNe, a^b, true, Truth(a), Truth(b)))
		}
	}
	return out
}

func operation(op int, n int64, ok bool, of ...api.Ins) Operation {
	is := api.TypeInt
	if arith.Compares(op) {
		is = api.TypeBool
	}
	with := func(x api.Ins) api.Func {
		l := append([]api.Ins{Number(4)}, of...)
		return Straight(0, append(l, x)...)
	}
	out := Operation{F: with(Ins(op, is, UpTo(1, 1+len(of))...))}
	out.Is = out.F
	if ok {
		out.Is = with(api.Ins{Op: api.OpConst, Type: is, N: n})
	}
	return out
}
