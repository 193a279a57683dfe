package dead

import (
	"slices"
	"testing"

	"distaff/api"
	"distaff/ir"
	"distaff/samples"
)

// R1: what is long ends, and soon.

// many is so many instructions as a function may have, a few left.
const many = api.MostIns - 64

// Promise 17.1: a long row of sums, each of the one ahead: the last one needs them all; and nobody needs it.
func TestLongSum(t *testing.T) {
	f := samples.Sums(many)
	stays(t, f)
	f.Blocks[0].Term.Arg = many / 2
	want(t, f, samples.Sums(many/2))
	f.Blocks[0].Term.Arg = 0
	want(t, f, samples.Sums(0))
}

// Promise 17.1: such a row over very many blocks, whose numbers fall on the way: all stay, and all go but the blocks.
func TestLongWay(t *testing.T) {
	f := samples.Falling(api.MostBlocks)
	fine(t, f)
	g := answer(t, f)
	if len(g.Ins) != len(f.Ins) {
		t.Error(len(g.Ins))
	}
	f.Blocks[1].Term.Arg = 0
	fine(t, f)
	g = answer(t, f)
	if len(g.Ins) != 1 || len(g.Blocks) != api.MostBlocks || !slices.Equal(g.Blocks[0].List, list(0)) {
		t.Error(len(g.Ins), len(g.Blocks))
	}
}

// Promise 17.1: an OpPhi of very many Args needs them all; one that nobody needs none.
func TestWidePhi(t *testing.T) {
	const ways = api.MostBlocks - 1
	f, made := samples.Ladder(ways, func(id int) api.Ins { return number(int64(id)) })
	f.Blocks[ways].List = list(len(f.Ins))
	f.Ins = append(f.Ins, phi(api.TypeInt, made...))
	for _, back := range list(0, len(f.Ins)-1) {
		f.Blocks[ways].Term.Arg = back
		fine(t, f)
		g := answer(t, f)
		// What the choices go by stays; a truth that nobody asks goes.
		is := 2
		if back > 0 {
			is = len(f.Ins) - 1
		}
		if len(g.Ins) != is {
			t.Error(len(g.Ins), is)
		}
	}
}

// Promise 17.1: very many OpPhi, each of which needs the next one only: a ring of a loop, needed as a whole or not at all.
func TestManyPhis(t *testing.T) {
	const phis = many - 8
	head := []api.Ins{ins(api.OpLt, api.TypeBool, 0, 0)}
	for n := range phis {
		head = append(head, phi(api.TypeInt, 0, 2+(n+1)%phis))
	}
	f := round(0, []api.Ins{input()}, head, nil, 1)
	f.Blocks[1].List = append(upTo(2, 2+phis), 1)
	want(t, f, round(0, []api.Ins{input()}, head[:1], nil, 1))
	f.Blocks[3].Term.Arg = 2 + phis/2
	fine(t, f)
	if g := answer(t, f); len(g.Ins) != len(f.Ins) || g.Blocks[3].Term.Kind != api.TermRet {
		t.Error(len(g.Ins))
	}
}

// Promise 17.1: what is needed very often is asked but once.
func TestMuchNeeded(t *testing.T) {
	l := []api.Ins{input(), ins(api.OpNeg, api.TypeInt, 0)}
	for id := len(l); id < many; id++ {
		l = append(l, ins(api.OpMul, api.TypeInt, id-1, id-2))
	}
	f := straight(many-1, l...)
	stays(t, f)
	f.Blocks[0].Term = ir.Ret(1)
	want(t, f, straight(1, l[:2]...))
}
