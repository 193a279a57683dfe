package sparse

import (
	"testing"

	"distaff/api"
	"distaff/ir"
	"distaff/samples"
)

// R1: what is long ends, and soon.

// many is so many instructions as a function may have, a few left.
const many = api.MostIns - 64

// Promise 15.1: a long row of sums, each of the one ahead, in one block; and in blocks whose numbers fall on the way.
func TestLongSum(t *testing.T) {
	f := samples.Sums(many)
	fine(t, f)
	for id, x := range answer(t, f).Ins {
		if x.Op != api.OpConst || x.N != int64(id)+1 {
			t.Fatal(id, x)
		}
	}
	f = samples.Falling(api.MostBlocks)
	fine(t, f)
	for id, n := range numbersOf(t, f) {
		if n != int64(id)+1 {
			t.Fatal(id, n)
		}
	}
}

// numbersOf is the numbers of a function of which all is known.
func numbersOf(t *testing.T, f api.Func) []int64 {
	t.Helper()
	known, numbers := Facts(f)
	for id := range known {
		if !known[id] {
			t.Fatalf("%d is not known", id)
		}
	}
	return numbers
}

// Promise 15.1: choices one behind the other, of which one goes by the number that the one ahead came to: only one way of each is gone, and one block is come to from none of them but the last one.
func TestLongChoices(t *testing.T) {
	const ways = api.MostBlocks - 1
	f, made := samples.Ladder(ways, func(id int) api.Ins { return ins(api.OpFlip, api.TypeBool, id-1) })
	f.Ins[2] = truth(1)
	for b := range ways - 1 {
		// The n-th one is 0, or 1: away from the last block.
		e := &f.Blocks[b].Term
		e.Arg = made[b]
		if b%2 == 1 {
			e.To = list(e.To[1], e.To[0])
		}
	}
	f.Blocks[ways].List = list(len(f.Ins))
	f.Ins = append(f.Ins, phi(api.TypeBool, made...))
	fine(t, f)
	g := answer(t, f)
	if last := g.Blocks[ways]; len(g.Blocks) != ways+1 || len(last.Preds) != 1 || last.Preds[0] != ways-1 || g.Ins[last.List[0]].N != 0 {
		t.Error(len(g.Blocks), last)
	}
	// All to the last block at once.
	f.Blocks[0].Term = ir.Branch(made[0], 1, ways)
	if g = answer(t, f); len(g.Blocks) != 2 || len(g.Ins) != 5 {
		t.Error(len(g.Blocks), len(g.Ins))
	}
}

// Promise 15.1: OpPhi of very many Args, all the same number; and but for the last one.
func TestWidePhi(t *testing.T) {
	for _, c := range [][2]int{{1 << 10, 1 << 10}, {api.MostBlocks - 1, 1}} {
		ways, phis := c[0], c[1]
		f, made := samples.Ladder(ways, func(int) api.Ins { return number(7) })
		for range phis {
			f.Blocks[ways].List = append(f.Blocks[ways].List, len(f.Ins))
			f.Ins = append(f.Ins, phi(api.TypeInt, made...))
		}
		fine(t, f)
		for _, last := range []int64{7, 8} {
			f.Ins[made[ways-1]].N = last
			known, numbers := Facts(f)
			for _, id := range f.Blocks[ways].List {
				if known[id] != (last == 7) || numbers[id] != 7*(8-last) {
					t.Fatal(id, known[id], numbers[id])
				}
			}
			g := answer(t, f)
			for _, id := range g.Blocks[ways].List {
				if (g.Ins[id].Op == api.OpConst) != (last == 7) {
					t.Fatal(id, g.Ins[id])
				}
			}
		}
	}
}

// Promise 15.1: a loop with very many OpPhi, each of which is what the next but one was: of every other one it is only found out one after the other that it is not known. Those that are known go behind the others.
func TestManyPhis(t *testing.T) {
	const phis = api.MostIns/2 - 8
	head := []api.Ins{input(), ins(api.OpLt, api.TypeBool, 1, 1)}
	for n := range phis {
		// The last one but one is read anew each time.
		next := 2 + n + 3
		switch n {
		case phis - 2:
			next = 1
		case phis - 1:
			next = 0
		}
		head = append(head, phi(api.TypeInt, 0, next))
	}
	f := round(0, []api.Ins{number(7)}, head, nil, 2)
	f.Blocks[1].List = append(upTo(3, 3+phis), 1, 2)
	fine(t, f)
	known, _ := Facts(f)
	for n := range phis {
		if known[3+n] != (n%2 == 1) {
			t.Fatal(n, known[3+n])
		}
	}
	g := answer(t, f)
	for at, id := range g.Blocks[1].List[:phis] {
		if x := g.Ins[id]; (x.Op == api.OpPhi) != (at < phis/2) {
			t.Fatal(at, x)
		}
	}
}
