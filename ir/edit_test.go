package ir

import (
	"math"
	"math/rand"
	"slices"
	"testing"

	"distaff/api"
)

// nowhere are numbers of what counts and diamond do not have.
var nowhere = []int{-1, -2, 50, math.MaxInt, math.MinInt}

// edited holds what comes of an Edit of a function against what should.
func edited(t *testing.T, of api.Func, do func(e *Edit), should func(f *api.Func)) {
	t.Helper()
	e := New(of)
	do(e)
	f := Clone(of)
	should(&f)
	want(t, *e.F(), f)
}

func stays(f *api.Func) {}

// Promise 7.2: an Edit is of a copy; what is done to one is not done to others.
func TestNew(t *testing.T) {
	f := counts()
	e, other := New(f), New(f)
	want(t, *e.F(), counts())
	e.Add(0, number(1))
	e.Replace(2, 0)
	e.Turn(2, 1, 3)
	e.Cut(1)
	e.Drop(3)
	want(t, f, counts())
	want(t, *other.F(), counts())
	spoil(&f)
	want(t, *other.F(), counts())
	if !apart(other.F()) {
		t.Error("lists that share")
	}
}

// Rule 2: the function that F told is the thing itself, so what is filled in there is in what comes of it.
func TestF(t *testing.T) {
	e := New(diamond())
	f := e.F()
	b := e.Block()
	id := e.Add(b, number(30))
	if len(f.Blocks) != 5 || len(f.Ins) != 7 || f != e.F() {
		t.Fatalf("%+v", f)
	}
	e.Turn(0, 1, b)
	e.End(b, Jump(3))
	for _, phi := range f.Blocks[3].List[:2] {
		f.Ins[phi].Args = append(f.Ins[phi].Args, id)
	}
	// What the second OpPhi was by the block that stays went with the other one.
	want(t, e.Done(), api.Func{
		Name: "diamond",
		Ret:  api.TypeInt,
		Ins:  []api.Ins{{Op: api.OpConst, Type: api.TypeBool, N: 1}, number(20), ins(api.OpPhi, 1, 5), ins(api.OpPhi, -1, 5), ins(api.OpSub, 2, 3), number(30)},
		Blocks: []api.Block{
			block(Branch(0, 3, 1), nil, list(0)),
			block(Jump(2), list(0), list(1)),
			block(Ret(4), list(1, 3), list(2, 3, 4)),
			block(Jump(2), list(0), list(5)),
		},
	})
}

// Promise 7.2: Done is of what is there then; more can be done behind it.
func TestDone(t *testing.T) {
	e := New(counts())
	want(t, e.Done(), counts())
	e.Drop(3)
	e.Cut(1)
	e.End(1, Jump(3))
	before := Clone(*e.F())
	got := e.Done()
	want(t, got, Compact(before))
	if len(got.Blocks) != 3 || len(got.Ins) != 3 {
		t.Error(Print(got))
	}
	spoil(&got)
	want(t, *e.F(), before)
	e.Add(3, number(1))
	if n := len(e.Done().Ins); n != 4 {
		t.Error(n)
	}
}

func TestInsert(t *testing.T) {
	x := api.Ins{Op: api.OpCall, Type: api.TypeInt, Args: list(0, 1), N: 3, To: 4}
	for at, l := range [][]int{{6, 3, 4, 5}, {3, 6, 4, 5}, {3, 4, 6, 5}, {3, 4, 5, 6}} {
		edited(t, diamond(), func(e *Edit) {
			if n := e.Insert(3, at, x); n != 6 {
				t.Error(n)
			}
		}, func(f *api.Func) {
			f.Ins = append(f.Ins, x)
			f.Blocks[3].List = l
		})
	}
	edited(t, counts(), func(e *Edit) {
		if n := e.Insert(3, 0, x); n != 6 {
			t.Error(n)
		}
	}, func(f *api.Func) {
		f.Ins = append(f.Ins, x)
		f.Blocks[3].List = list(6)
	})
}

func TestAdd(t *testing.T) {
	e := New(diamond())
	for i, b := range []int{0, 3, 0, 1} {
		if n := e.Add(b, number(int64(i))); n != 6+i {
			t.Error(n)
		}
	}
	f := diamond()
	f.Ins = append(f.Ins, number(0), number(1), number(2), number(3))
	f.Blocks[0].List = list(0, 6, 8)
	f.Blocks[1].List = list(1, 9)
	f.Blocks[3].List = list(3, 4, 5, 7)
	want(t, *e.F(), f)
}

// Promise 7.2: -1, and nothing, if there is no such place.
func TestInsertWhereNoPlaceIs(t *testing.T) {
	for _, b := range append(nowhere, 4) {
		edited(t, diamond(), func(e *Edit) {
			if n := e.Insert(b, 0, number(1)); n != -1 {
				t.Error(b, n)
			}
			if n := e.Add(b, number(1)); n != -1 {
				t.Error(b, n)
			}
		}, stays)
	}
	for _, at := range append(nowhere, 4) {
		edited(t, diamond(), func(e *Edit) {
			if n := e.Insert(3, at, number(1)); n != -1 {
				t.Error(at, n)
			}
		}, stays)
	}
}

// Rule 2: an instruction that was put in is a copy.
func TestInsertIsOwn(t *testing.T) {
	args := list(1, 2)
	e := New(counts())
	a, b := e.Add(0, ins(api.OpAdd, args...)), e.Insert(0, 0, ins(api.OpSub, args...))
	args[0] = 5
	e.Replace(1, 0)
	if got := e.F().Ins; !slices.Equal(got[a].Args, list(0, 2)) || !slices.Equal(got[b].Args, list(0, 2)) || !slices.Equal(args, list(5, 2)) {
		t.Error(got, args)
	}
	if !apart(e.F()) {
		t.Error("lists that share")
	}
}

func TestPhis(t *testing.T) {
	f := diamond()
	f.Blocks[0].List = list(3, 0, 4, 9, -1)
	e := New(f)
	for b, n := range []int{2, 0, 0, 2} {
		if got := e.Phis(b); got != n {
			t.Errorf("%d: %d, not %d", b, got, n)
		}
	}
	for _, b := range append(nowhere, 4) {
		if got := e.Phis(b); got != 0 {
			t.Errorf("%d: %d", b, got)
		}
	}
	e.Drop(3)
	e.Add(1, ins(api.OpPhi))
	if e.Phis(3) != 1 || e.Phis(0) != 1 || e.Phis(1) != 1 {
		t.Error("behind changes")
	}
}

// Promise 7.2: what is dropped is nothing, and stands nowhere; who uses it still names it.
func TestDrop(t *testing.T) {
	edited(t, diamond(), func(e *Edit) { e.Drop(4) }, func(f *api.Func) {
		f.Ins[4] = api.Ins{}
		f.Blocks[3].List = list(3, 5)
	})
	f := diamond()
	f.Blocks[0].List = list(2, 0, 2)
	f.Blocks[3].List = list(2, 2)
	edited(t, f, func(e *Edit) { e.Drop(2) }, func(f *api.Func) {
		f.Ins[2] = api.Ins{}
		f.Blocks[0].List = list(0)
		f.Blocks[2].List = nil
		f.Blocks[3].List = nil
	})
	for _, id := range append(nowhere, 6) {
		edited(t, diamond(), func(e *Edit) { e.Drop(id) }, stays)
	}
}

// Lists that somebody goes over stay as they are when something goes from them, or comes into them.
func TestListsThatAreGoneOver(t *testing.T) {
	e := New(diamond())
	e.Add(3, number(0)) // behind it there is room in the list
	l, preds := e.F().Blocks[3].List, e.F().Blocks[3].Preds
	for _, id := range l {
		e.Insert(3, 0, number(1))
		e.Drop(id)
	}
	for _, p := range preds {
		e.Cut(p)
	}
	if !slices.Equal(l, list(3, 4, 5, 6)) || !slices.Equal(preds, list(1, 2)) {
		t.Error(l, preds)
	}
	if k := e.F().Blocks[3]; !slices.Equal(k.List, list(10, 9, 8, 7)) || len(k.Preds) != 0 {
		t.Error(k)
	}
}

// Promise 7.2: all Args, and the Arg of ends that have one.
func TestReplace(t *testing.T) {
	edited(t, counts(), func(e *Edit) { e.Replace(2, 0) }, func(f *api.Func) {
		f.Ins[3].Args = list(0, 0)
		f.Ins[5].Args = list(0, 4)
		f.Blocks[3].Term.Arg = 0
	})
	edited(t, counts(), func(e *Edit) { e.Replace(3, 1) }, func(f *api.Func) { f.Blocks[1].Term.Arg = 1 })
	edited(t, diamond(), func(e *Edit) { e.Replace(1, 2) }, func(f *api.Func) {
		f.Ins[3].Args = list(2, 2)
		f.Ins[4].Args = list(2, 2)
	})
	// What nobody names, and itself.
	edited(t, counts(), func(e *Edit) { e.Replace(50, 2); e.Replace(2, 2) }, stays)
}

// Promise 7.2: a jump, a return of nothing and an end that is none have no Arg.
func TestReplaceOfEndsWithoutArg(t *testing.T) {
	f := api.Func{Blocks: []api.Block{{Term: Jump(1)}, {Term: Ret(-1)}, {}, {Term: Ret(0)}, {Term: Branch(0, 1, 2)}}}
	edited(t, f, func(e *Edit) { e.Replace(-1, 7) }, stays)
	edited(t, f, func(e *Edit) { e.Replace(0, 7) }, func(f *api.Func) {
		f.Blocks[3].Term.Arg = 7
		f.Blocks[4].Term.Arg = 7
	})
}

func TestBlock(t *testing.T) {
	edited(t, counts(), func(e *Edit) {
		if a, b := e.Block(), e.Block(); a != 4 || b != 5 {
			t.Error(a, b)
		}
	}, func(f *api.Func) { f.Blocks = append(f.Blocks, api.Block{}, api.Block{}) })
	edited(t, api.Func{}, func(e *Edit) {
		if b := e.Block(); b != 0 {
			t.Error(b)
		}
	}, func(f *api.Func) { f.Blocks = make([]api.Block, 1) })
}

// Promise 7.2: both that it went to lose it, at the place where they have it.
func TestCut(t *testing.T) {
	f := diamond()
	f.Ins[5] = ins(api.OpSub, 1, 2) // no OpPhi: it loses nothing
	for b, c := range map[int][3][]int{1: {{2}, {2}, {1}}, 2: {{1}, {1}, {2}}} {
		edited(t, f, func(e *Edit) { e.Cut(b) }, func(f *api.Func) {
			f.Blocks[b].Term = api.Term{}
			f.Blocks[3].Preds, f.Ins[3].Args, f.Ins[4].Args = c[0], c[1], c[2]
		})
	}
	edited(t, f, func(e *Edit) { e.Cut(0) }, func(f *api.Func) {
		f.Blocks[0].Term = api.Term{}
		f.Blocks[1].Preds = nil
		f.Blocks[2].Preds = nil
	})
	edited(t, f, func(e *Edit) { e.Cut(3); e.Cut(3) }, func(f *api.Func) { f.Blocks[3].Term = api.Term{} })
	for _, b := range append(nowhere, 4) {
		edited(t, f, func(e *Edit) { e.Cut(b) }, stays)
	}
}

// Promise 7.2: of a block that goes to itself.
func TestCutOfItself(t *testing.T) {
	f := api.Func{
		Ins:    []api.Ins{number(1), ins(api.OpPhi, 0, 2), ins(api.OpAdd, 1, 0)},
		Blocks: []api.Block{block(Jump(1), nil, list(0)), block(Branch(2, 1, 2), list(0, 1), list(1, 2)), block(Ret(2), list(1), nil)},
	}
	edited(t, f, func(e *Edit) { e.Cut(1) }, func(f *api.Func) {
		f.Ins[1].Args = list(0)
		f.Blocks[1].Preds = list(0)
		f.Blocks[1].Term = api.Term{}
		f.Blocks[2].Preds = nil
	})
}

// Promise 7.2: an OpPhi that lacks a number loses none for the way that it has none for; one that stands twice loses one.
func TestCutOfWhatIsOdd(t *testing.T) {
	edited(t, diamond(), func(e *Edit) { e.Turn(0, 1, 3); e.Cut(0) }, func(f *api.Func) {
		f.Blocks[0].Term = api.Term{}
		f.Blocks[1].Preds = nil
		f.Blocks[2].Preds = nil
	})
	f := diamond()
	f.Blocks[3].List = list(3, 4, 3, 9, -1, 5)
	edited(t, f, func(e *Edit) { e.Cut(1) }, func(f *api.Func) {
		f.Blocks[1].Term = api.Term{}
		f.Blocks[3].Preds, f.Ins[3].Args, f.Ins[4].Args = list(2), list(2), list(1)
	})
	f = diamond()
	f.Blocks[0].Term.To = list(1, 9)
	edited(t, f, func(e *Edit) { e.Cut(0) }, func(f *api.Func) {
		f.Blocks[0].Term = api.Term{}
		f.Blocks[1].Preds = nil
	})
}

// Promise 7.2: those it goes to have it last; an end that there is stays.
func TestEnd(t *testing.T) {
	edited(t, diamond(), func(e *Edit) { e.Cut(1); e.End(1, Branch(0, 3, 2)) }, func(f *api.Func) {
		f.Blocks[1].Term = Branch(0, 3, 2)
		f.Blocks[2].Preds = list(0, 1)
		f.Blocks[3].Preds = list(2, 1)
		f.Ins[3].Args, f.Ins[4].Args = list(2), list(1)
	})
	edited(t, diamond(), func(e *Edit) { e.Block(); e.End(4, Jump(0)) }, func(f *api.Func) {
		f.Blocks = append(f.Blocks, block(Jump(0), nil, nil))
		f.Blocks[0].Preds = list(4)
	})
	edited(t, diamond(), func(e *Edit) { e.Block(); e.End(4, Jump(4)); e.End(4, Ret(1)) }, func(f *api.Func) {
		f.Blocks = append(f.Blocks, block(Jump(4), list(4), nil))
	})
	edited(t, diamond(), func(e *Edit) { e.Cut(3); e.End(3, Ret(4)) }, func(f *api.Func) { f.Blocks[3].Term.Arg = 4 })
	for _, b := range append(nowhere, 0, 1, 3, 4) {
		edited(t, diamond(), func(e *Edit) { e.End(b, Jump(2)) }, stays)
	}
}

// Promise 7.2: what an end names need not be there; a block that is gone to by both ways has it once.
func TestEndOfWhatIsOdd(t *testing.T) {
	f := api.Func{Blocks: make([]api.Block, 2)}
	edited(t, f, func(e *Edit) { e.End(0, Branch(3, 1, 1)) }, func(f *api.Func) {
		f.Blocks[0].Term = Branch(3, 1, 1)
		f.Blocks[1].Preds = list(0)
	})
	for _, to := range append(nowhere, 2) {
		edited(t, f, func(e *Edit) { e.End(0, Branch(3, to, 1)) }, func(f *api.Func) {
			f.Blocks[0].Term = Branch(3, to, 1)
			f.Blocks[1].Preds = list(0)
		})
	}
}

// Rule 2: an end that was put in is a copy.
func TestEndIsOwn(t *testing.T) {
	end := Branch(0, 1, 2)
	e := New(api.Func{Blocks: make([]api.Block, 4)})
	e.End(0, end)
	e.End(3, end)
	e.Turn(0, 1, 3)
	if !slices.Equal(end.To, list(1, 2)) || !slices.Equal(e.F().Blocks[3].Term.To, list(1, 2)) {
		t.Error(end, Print(*e.F()))
	}
}

func TestEnds(t *testing.T) {
	for _, c := range [][2]api.Term{
		{Jump(3), {Kind: 1, Arg: -1, To: list(3)}},
		{Branch(5, 6, 7), {Kind: 2, Arg: 5, To: list(6, 7)}},
		{Branch(-1, -2, -2), {Kind: 2, Arg: -1, To: list(-2, -2)}},
		{Ret(4), {Kind: 3, Arg: 4}},
		{Ret(-1), {Kind: 3, Arg: -1}},
	} {
		if !sameTerm(c[0], c[1]) {
			t.Errorf("%+v, not %+v", c[0], c[1])
		}
	}
}

// Promise 7.2: the one it went to loses it, with the Args; the other one has it last.
func TestTurn(t *testing.T) {
	edited(t, diamond(), func(e *Edit) { e.Turn(1, 3, 2) }, func(f *api.Func) {
		f.Blocks[1].Term.To = list(2)
		f.Blocks[2].Preds = list(0, 1)
		f.Blocks[3].Preds = list(2)
		f.Ins[3].Args, f.Ins[4].Args = list(2), list(1)
	})
	for at, old := range []int{1, 2} {
		edited(t, diamond(), func(e *Edit) { e.Turn(0, old, 3) }, func(f *api.Func) {
			f.Blocks[0].Term.To[at] = 3
			f.Blocks[old].Preds = nil
			f.Blocks[3].Preds = list(1, 2, 0)
		})
	}
	edited(t, counts(), func(e *Edit) { e.Turn(2, 1, 2) }, func(f *api.Func) {
		f.Blocks[2].Term.To = list(2)
		f.Blocks[2].Preds = list(1, 2)
		f.Blocks[1].Preds = list(0)
		f.Ins[2].Args = list(1)
	})
	// To itself: it has it last.
	edited(t, diamond(), func(e *Edit) { e.Turn(1, 3, 3) }, func(f *api.Func) {
		f.Blocks[3].Preds = list(2, 1)
		f.Ins[3].Args, f.Ins[4].Args = list(2), list(1)
	})
}

// Promise 7.2: what is not there, or is not gone to, is not turned.
func TestTurnOfNothing(t *testing.T) {
	for _, c := range [][3]int{{1, 2, 0}, {0, 3, 1}, {3, 0, 1}, {2, 2, 3}} {
		edited(t, diamond(), func(e *Edit) { e.Turn(c[0], c[1], c[2]) }, stays)
	}
	for _, b := range append(nowhere, 4) {
		edited(t, diamond(), func(e *Edit) { e.Turn(b, 3, 1); e.Turn(0, b, 3); e.Turn(0, 1, b) }, stays)
	}
}

// Promise 7.2: the new block stands between both at the places that they had.
func TestSplit(t *testing.T) {
	split := func(b, to, n int) func(e *Edit) {
		return func(e *Edit) {
			if got := e.Split(b, to); got != n {
				t.Errorf("%d to %d: %d, not %d", b, to, got, n)
			}
		}
	}
	edited(t, diamond(), split(0, 1, 4), func(f *api.Func) {
		f.Blocks[0].Term.To = list(4, 2)
		f.Blocks[1].Preds = list(4)
		f.Blocks = append(f.Blocks, block(Jump(1), list(0), nil))
	})
	edited(t, diamond(), split(0, 2, 4), func(f *api.Func) {
		f.Blocks[0].Term.To = list(1, 4)
		f.Blocks[2].Preds = list(4)
		f.Blocks = append(f.Blocks, block(Jump(2), list(0), nil))
	})
	edited(t, counts(), split(2, 1, 4), func(f *api.Func) {
		f.Blocks[2].Term.To = list(4)
		f.Blocks[1].Preds = list(0, 4)
		f.Blocks = append(f.Blocks, block(Jump(1), list(2), nil))
	})
	edited(t, counts(), split(0, 1, 4), func(f *api.Func) {
		f.Blocks[0].Term.To = list(4)
		f.Blocks[1].Preds = list(4, 2)
		f.Blocks = append(f.Blocks, block(Jump(1), list(0), nil))
	})
	edited(t, api.Func{Blocks: []api.Block{block(Jump(0), list(0), nil)}}, split(0, 0, 1), func(f *api.Func) {
		f.Blocks = []api.Block{block(Jump(1), list(1), nil), block(Jump(0), list(0), nil)}
	})
	for _, c := range [][2]int{{1, 2}, {3, 0}, {0, 0}, {0, 3}} {
		edited(t, diamond(), split(c[0], c[1], -1), stays)
	}
	for _, b := range append(nowhere, 4) {
		edited(t, diamond(), split(b, 1, -1), stays)
		edited(t, diamond(), split(0, b, -1), stays)
	}
	// A block that is gone to, but is not there.
	gone := diamond()
	gone.Blocks[1].Term = Jump(4)
	edited(t, gone, split(1, 4, -1), stays)
}

// Rule 1: an Edit that is nil, or of nothing, is one too.
func TestEditOfNothing(t *testing.T) {
	for _, e := range []*Edit{nil, {}, New(api.Func{})} {
		for _, b := range append(nowhere, 0) {
			if e.Insert(b, 0, number(1)) != -1 || e.Add(b, number(1)) != -1 || e.Phis(b) != 0 || e.Split(b, b) != -1 {
				t.Error(b)
			}
			e.Drop(b)
			e.Replace(b, 0)
			e.Cut(b)
			e.End(b, Jump(b))
			e.Turn(b, b, b)
		}
		want(t, e.Done(), api.Func{})
	}
	var e *Edit
	if e.F() != nil || e.Block() != -1 {
		t.Error("nil")
	}
}

// Rule 1: no call panics, whatever the function is, and whatever was done to it.
func TestOddEditsByChance(t *testing.T) {
	r := rand.New(rand.NewSource(9))
	for range 4000 {
		f := chance(r)
		before := Clone(f)
		e := New(f)
		n := func() int { return r.Intn(14) - 2 }
		for range 30 {
			switch r.Intn(11) {
			case 0:
				e.Insert(n(), n(), ins(api.OpPhi, n(), n()))
			case 1:
				e.Add(n(), ins(r.Intn(40), n()))
			case 2:
				e.Phis(n())
			case 3:
				e.Drop(n())
			case 4:
				e.Replace(n(), n())
			case 5:
				e.Block()
			case 6:
				e.Cut(n())
			case 7:
				e.End(n(), api.Term{Kind: r.Intn(5), Arg: n(), To: list(n(), n())})
			case 8:
				e.Turn(n(), n(), n())
			case 9:
				e.Split(n(), n())
			case 10:
				b := n()
				if k := e.block(b); k != nil {
					to := slices.Clone(k.Term.To)
					e.Cut(b)
					for _, x := range to {
						if k := e.block(x); k != nil && slices.Contains(k.Preds, b) {
							t.Fatalf("%d still has %d: %s", x, b, Print(*e.F()))
						}
					}
				}
			}
		}
		want(t, e.Done(), Compact(*e.F()))
		want(t, f, before)
		if !apart(e.F()) {
			t.Fatal("lists that share")
		}
	}
}
