// Package samples makes functions, programs and texts for the tests of layers that change programs. No layer calls it.
package samples

import (
	"slices"

	"distaff/api"
	"distaff/ir"
)

// List is a list of numbers.
func List(l ...int) []int { return l }

// UpTo is the numbers from one on, below another one.
func UpTo(from, below int) []int {
	var l []int
	for n := from; n < below; n++ {
		l = append(l, n)
	}
	return l
}

// Ins is an instruction: what it does, of which type it is, of what.
func Ins(op, is int, args ...int) api.Ins { return api.Ins{Op: op, Type: is, Args: args} }

// Number is an OpConst of type int.
func Number(n int64) api.Ins { return api.Ins{Op: api.OpConst, Type: api.TypeInt, N: n} }

// Truth is an OpConst of type bool.
func Truth(n int64) api.Ins { return api.Ins{Op: api.OpConst, Type: api.TypeBool, N: n} }

// Param is an OpParam.
func Param(is int, n int64) api.Ins { return api.Ins{Op: api.OpParam, Type: is, N: n} }

// Guard is an OpGuard of a trap.
func Guard(which int64, arg int) api.Ins {
	return api.Ins{Op: api.OpGuard, N: which, Args: List(arg)}
}

// Show is an OpPrint.
func Show(arg int) api.Ins { return Ins(api.OpPrint, api.TypeVoid, arg) }

// Input is an OpInput.
func Input() api.Ins { return Ins(api.OpInput, api.TypeInt) }

// Phi is an OpPhi.
func Phi(is int, args ...int) api.Ins { return Ins(api.OpPhi, is, args...) }

// Block is a block: its end, from which blocks it is come to, its instructions.
func Block(t api.Term, preds, l []int) api.Block { return api.Block{List: l, Preds: preds, Term: t} }

// Main is a main of type int.
func Main(ins []api.Ins, blocks ...api.Block) api.Func {
	return api.Func{Name: "main", Ret: api.TypeInt, Ins: ins, Blocks: blocks}
}

// Straight is a main of one block, with its instructions in order, that returns one of them.
func Straight(back int, l ...api.Ins) api.Func {
	return Main(l, Block(ir.Ret(back), nil, UpTo(0, len(l))))
}

// Choice is a main that goes over one of two ways to its last block, whose instructions are told; it returns the last one of all.
func Choice(ahead []api.Ins, c int, last ...api.Ins) api.Func {
	many := len(ahead) + len(last)
	return Main(slices.Concat(ahead, last),
		Block(ir.Branch(c, 1, 2), nil, UpTo(0, len(ahead))),
		Block(ir.Jump(3), List(0), nil),
		Block(ir.Jump(3), List(0), nil),
		Block(ir.Ret(many-1), List(1, 2), UpTo(len(ahead), many)))
}

// Round is a main with a loop: block 1 is its head, block 2 goes back, block 3 returns an instruction.
func Round(back int, ahead, head, body []api.Ins, c int) api.Func {
	h, b := len(ahead), len(ahead)+len(head)
	return Main(slices.Concat(ahead, head, body),
		Block(ir.Jump(1), nil, UpTo(0, h)),
		Block(ir.Branch(c, 2, 3), List(0, 2), UpTo(h, b)),
		Block(ir.Jump(1), List(1), UpTo(b, b+len(body))),
		Block(ir.Ret(back), List(1), nil))
}

// Sums is a main of a long row of sums, each of the one ahead and 1: of known numbers, from 1 on.
func Sums(many int) api.Func {
	l := []api.Ins{Number(1)}
	for id := range many {
		l = append(l, Ins(api.OpAdd, api.TypeInt, id, 0))
	}
	return Straight(many, l...)
}

// Falling is such a main of so many blocks, one sum in each but the first one, whose numbers fall on the way.
func Falling(blocks int) api.Func {
	f := Main([]api.Ins{Number(1)}, make([]api.Block, blocks)...)
	f.Blocks[0] = Block(ir.Jump(blocks-1), nil, List(0))
	for b := blocks - 1; b > 0; b-- {
		id := len(f.Ins)
		f.Ins = append(f.Ins, Ins(api.OpAdd, api.TypeInt, id-1, 0))
		f.Blocks[b] = Block(ir.Jump(b-1), List((b+1)%blocks), List(id))
	}
	f.Blocks[1].Term = ir.Ret(len(f.Ins) - 1)
	return f
}

// Ladder is a main whose choices, one behind the other, all lead to its last block: that is come to from so many blocks. Each has an instruction of its own, which is told by its number; which these are, too.
func Ladder(ways int, own func(id int) api.Ins) (api.Func, []int) {
	f := Main([]api.Ins{Input(), Truth(1), Ins(api.OpLt, api.TypeBool, 0, 0)})
	var made []int
	last := api.Block{Term: ir.Ret(0)}
	for b := range ways {
		id := len(f.Ins)
		f.Ins = append(f.Ins, own(id))
		k := Block(ir.Branch(2, ways, b+1), List(b-1), List(id))
		if b == 0 {
			k.Preds, k.List = nil, List(0, 1, 2, id)
		}
		if b == ways-1 {
			k.Term = ir.Jump(ways)
		}
		made = append(made, id)
		last.Preds = append(last.Preds, b)
		f.Blocks = append(f.Blocks, k)
	}
	f.Blocks = append(f.Blocks, last)
	return f, made
}
