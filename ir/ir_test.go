package ir

import (
	"math"
	"reflect"
	"slices"
	"testing"

	"distaff/api"
)

// Short ways to make functions.

func list(l ...int) []int { return l }

func ins(op int, args ...int) api.Ins { return api.Ins{Op: op, Type: api.TypeInt, Args: args} }

func number(n int64) api.Ins { return api.Ins{Op: api.OpConst, Type: api.TypeInt, N: n} }

func block(t api.Term, preds, l []int) api.Block { return api.Block{List: l, Preds: preds, Term: t} }

// counts is a loop that counts up to its argument: 0 to 1, 1 to 2 and 3, 2 to 1.
func counts() api.Func {
	return api.Func{
		Name:   "counts",
		Params: list(api.TypeInt),
		Ret:    api.TypeInt,
		Ins: []api.Ins{
			{Op: api.OpParam, Type: api.TypeInt},
			number(0),
			ins(api.OpPhi, 1, 5),
			{Op: api.OpLt, Type: api.TypeBool, Args: list(2, 0)},
			number(1),
			ins(api.OpAdd, 2, 4),
		},
		Blocks: []api.Block{
			block(Jump(1), nil, list(0, 1)),
			block(Branch(3, 2, 3), list(0, 2), list(2, 3)),
			block(Jump(1), list(1), list(4, 5)),
			block(Ret(2), list(1), nil),
		},
	}
}

// diamond goes two ways, which meet: 0 to 1 and 2, both to 3, which has two OpPhi.
func diamond() api.Func {
	return api.Func{
		Name: "diamond",
		Ret:  api.TypeInt,
		Ins: []api.Ins{
			{Op: api.OpConst, Type: api.TypeBool, N: 1},
			number(10),
			number(20),
			ins(api.OpPhi, 1, 2),
			ins(api.OpPhi, 2, 1),
			ins(api.OpSub, 3, 4),
		},
		Blocks: []api.Block{
			block(Branch(0, 1, 2), nil, list(0)),
			block(Jump(3), list(0), list(1)),
			block(Jump(3), list(0), list(2)),
			block(Ret(5), list(1, 2), list(3, 4, 5)),
		},
	}
}

// lists are all lists of numbers that a function has.
func lists(f *api.Func) []*[]int {
	l := []*[]int{&f.Params}
	for i := range f.Ins {
		l = append(l, &f.Ins[i].Args)
	}
	for i := range f.Blocks {
		k := &f.Blocks[i]
		l = append(l, &k.List, &k.Preds, &k.Term.To)
	}
	return l
}

// spoil writes over all of a function, and over the room behind each of its lists.
func spoil(f *api.Func) {
	for _, l := range lists(f) {
		all := (*l)[:cap(*l)]
		for i := range all {
			all[i] = -99
		}
	}
	for i := range f.Ins {
		f.Ins[i] = api.Ins{Op: -99}
	}
	for i := range f.Blocks {
		f.Blocks[i] = api.Block{}
	}
}

// apart tells whether no two lists of a function share anything.
func apart(f *api.Func) bool {
	all := lists(f)
	for i, l := range all {
		for at := range *l {
			(*l)[at] = i
		}
		*l = append(*l, i)
	}
	for i, l := range all {
		for _, x := range *l {
			if x != i {
				return false
			}
		}
	}
	return true
}

// equal is told by the library, apart from lists that are nil or empty.
func equal(a, b api.Func) bool {
	for _, f := range []*api.Func{&a, &b} {
		f.Params = append([]int{}, f.Params...)
		f.Ins = append([]api.Ins{}, f.Ins...)
		f.Blocks = append([]api.Block{}, f.Blocks...)
		for _, l := range lists(f) {
			*l = append([]int{}, *l...)
		}
	}
	return reflect.DeepEqual(a, b)
}

// want is a test's failure, if two functions are not the same.
func want(t *testing.T, got, want api.Func) {
	t.Helper()
	if !equal(got, want) {
		t.Errorf("not the same:\n%s%+v\n%s%+v", Print(got), got, Print(want), want)
	}
}

func TestNumbersOfEnds(t *testing.T) {
	if l := list(api.TermNone, api.TermJump, api.TermBranch, api.TermRet); !slices.Equal(l, list(0, 1, 2, 3)) {
		t.Error(l)
	}
}

// Promise 7.1: a clone is the same, and shares nothing: not with what it is of, and not within itself.
func TestClone(t *testing.T) {
	for _, of := range []func() api.Func{counts, diamond, func() api.Func { return api.Func{} }} {
		f := of()
		got := Clone(f)
		want(t, got, of())
		spoil(&got)
		want(t, f, of())
		got = Clone(f)
		spoil(&f)
		want(t, got, of())
		if !apart(&got) {
			t.Error("lists that share", got.Name)
		}
	}
}

// Promise 7.1: lists that lie in one another's room are apart in a clone.
func TestCloneOfListsThatShare(t *testing.T) {
	room := list(1, 2, 3, 4)
	f := api.Func{Ins: []api.Ins{ins(api.OpPhi, 1), ins(api.OpPhi, 1)}, Blocks: []api.Block{block(api.Term{To: room[2:]}, room[:1], room[1:3])}}
	f.Ins[0].Args, f.Ins[1].Args = room[:2], room[:3]
	got := Clone(f)
	want(t, got, f)
	if !apart(&got) {
		t.Error("lists that share")
	}
	if !slices.Equal(room, list(1, 2, 3, 4)) {
		t.Error("changed", room)
	}
}

func TestCloneProg(t *testing.T) {
	whole := func() api.Prog { return api.Prog{Funcs: []api.Func{counts(), diamond(), {}}, Main: 1} }
	p := whole()
	got := CloneProg(p)
	if !reflect.DeepEqual(Clone(got.Funcs[0]), Clone(counts())) || got.Main != 1 || len(got.Funcs) != 3 {
		t.Errorf("%+v", got)
	}
	for i := range got.Funcs {
		spoil(&got.Funcs[i])
		got.Funcs[i] = api.Func{Name: "other"}
	}
	if !reflect.DeepEqual(p, whole()) {
		t.Errorf("changed: %+v", p)
	}
	if got := CloneProg(api.Prog{}); len(got.Funcs) != 0 || got.Main != 0 {
		t.Errorf("%+v", got)
	}
}

// odd are numbers of all operations, and numbers of none.
func odd() []int {
	l := list(math.MinInt, -1<<32, 1<<8+1, 1<<32+1, 1<<32+30, math.MaxInt)
	for n := -40; n <= 80; n++ {
		l = append(l, n)
	}
	return l
}

// Promise 7.1, by the numbers that layer 1 tells.
func TestPure(t *testing.T) {
	pure := list(1, 2, 3, 4, 5, 6, 9, 10, 11, 12, 13, 14, 15, 16, 17, 18, 19, 20, 21, 22, 23, 24, 25, 26, 27, 28)
	for _, op := range odd() {
		if got := Pure(op); got != slices.Contains(pure, op) {
			t.Errorf("Pure(%d): %v", op, got)
		}
	}
	if Pure(api.OpDiv) || Pure(api.OpRem) || Pure(api.OpLoad) || Pure(api.OpNone) || !Pure(api.OpConst) || !Pure(api.OpSelect) || !Pure(api.OpCols) {
		t.Error("at the edges")
	}
}

func TestSeen(t *testing.T) {
	seen := list(30, 31, 32, 33, 34, 35, 36)
	for _, op := range odd() {
		if got := Seen(op); got != slices.Contains(seen, op) {
			t.Errorf("Seen(%d): %v", op, got)
		}
	}
	if Seen(api.OpLoad) || !Seen(api.OpNew) || !Seen(api.OpCall) {
		t.Error("at the edges")
	}
}

// changes are functions that differ from counts in one thing each.
func changes() []func(f *api.Func) {
	return []func(f *api.Func){
		func(f *api.Func) { f.Name = "count" },
		func(f *api.Func) { f.Ret = api.TypeBool },
		func(f *api.Func) { f.Params = nil },
		func(f *api.Func) { f.Params = list(api.TypeBool) },
		func(f *api.Func) { f.Params = append(f.Params, api.TypeInt) },
		func(f *api.Func) { f.Ins = f.Ins[:5] },
		func(f *api.Func) { f.Ins = append(f.Ins, api.Ins{}) },
		func(f *api.Func) { f.Ins[5].Op = api.OpSub },
		func(f *api.Func) { f.Ins[5].Type = api.TypeBool },
		func(f *api.Func) { f.Ins[5].N = 1 },
		func(f *api.Func) { f.Ins[4].N = 1 << 32 },
		func(f *api.Func) { f.Ins[5].To = 1 },
		func(f *api.Func) { f.Ins[5].Args = nil },
		func(f *api.Func) { f.Ins[5].Args = list(2, 5) },
		func(f *api.Func) { f.Ins[5].Args = list(4, 2) },
		func(f *api.Func) { f.Ins[0].Args = list(0) },
		func(f *api.Func) { f.Blocks = f.Blocks[:3] },
		func(f *api.Func) { f.Blocks = append(f.Blocks, api.Block{}) },
		func(f *api.Func) { f.Blocks[0].List = list(1, 0) },
		func(f *api.Func) { f.Blocks[0].List = list(0) },
		func(f *api.Func) { f.Blocks[1].Preds = list(2, 0) },
		func(f *api.Func) { f.Blocks[0].Preds = list(0) },
		func(f *api.Func) { f.Blocks[1].Term.Kind = api.TermRet },
		func(f *api.Func) { f.Blocks[1].Term.Arg = 2 },
		func(f *api.Func) { f.Blocks[1].Term.To = list(3, 2) },
		func(f *api.Func) { f.Blocks[3].Term.To = list(0) },
	}
}

// Promise 7.1: all is asked, and what is nil is what is empty.
func TestSame(t *testing.T) {
	f := counts()
	if !Same(f, counts()) || !Same(api.Func{}, api.Func{}) || Same(f, api.Func{}) || Same(diamond(), f) {
		t.Error("wholes")
	}
	for i, change := range changes() {
		g := counts()
		change(&g)
		if Same(f, g) || Same(g, f) {
			t.Error("change", i)
		}
		if p, q := (api.Prog{Funcs: []api.Func{f, f}}), (api.Prog{Funcs: []api.Func{f, g}}); SameProg(p, q) || SameProg(q, p) {
			t.Error("change of a program", i)
		}
	}
	empty := counts()
	for _, l := range lists(&empty) {
		if len(*l) == 0 {
			*l = []int{}
		}
	}
	if !Same(f, empty) || !Same(empty, f) || !Same(api.Func{Ins: []api.Ins{}, Blocks: []api.Block{}}, api.Func{}) {
		t.Error("nil is not empty")
	}
}

func TestSameProg(t *testing.T) {
	p := api.Prog{Funcs: []api.Func{counts(), diamond()}, Main: 1}
	for i, q := range []api.Prog{
		{},
		{Funcs: []api.Func{counts(), diamond()}},
		{Funcs: []api.Func{diamond(), counts()}, Main: 1},
		{Funcs: []api.Func{counts()}, Main: 1},
		{Funcs: []api.Func{counts(), diamond(), {}}, Main: 1},
	} {
		if SameProg(p, q) || SameProg(q, p) || !SameProg(q, q) {
			t.Error(i)
		}
	}
	if !SameProg(p, CloneProg(p)) || !SameProg(api.Prog{}, api.Prog{Funcs: []api.Func{}}) {
		t.Error("the same is not")
	}
}

// Promise 7.1: what stands in no list is not reckoned; each block is, reached or not.
func TestSize(t *testing.T) {
	left := counts()
	left.Ins = append(left.Ins, number(7), number(8))
	for i, c := range []struct {
		p    api.Prog
		want int
	}{
		{api.Prog{}, 0},
		{api.Prog{Funcs: []api.Func{{}}}, 0},
		{api.Prog{Funcs: []api.Func{counts()}}, 6 + 4},
		{api.Prog{Funcs: []api.Func{left}, Main: 9}, 6 + 4},
		{api.Prog{Funcs: []api.Func{counts(), diamond(), {}}}, 6 + 4 + 6 + 4},
		{api.Prog{Funcs: []api.Func{{Blocks: make([]api.Block, 3)}}}, 3},
	} {
		if got := Size(c.p); got != c.want {
			t.Errorf("%d: %d, not %d", i, got, c.want)
		}
	}
}

// Promise 7.1: each line whole.
func TestPrint(t *testing.T) {
	for _, c := range []struct {
		f    api.Func
		want string
	}{
		{api.Func{}, "func  : 0\n"},
		{api.Func{Name: "f", Params: list(1, 2, 4), Ret: 3}, "func f 1 2 4 : 3\n"},
		{counts(), `func counts 1 : 1
block 0 from
  0 = 2 ; 1 0 0
  1 = 1 ; 1 0 0
  end 1 -1 to 1
block 1 from 0 2
  2 = 3 1 5 ; 1 0 0
  3 = 19 2 0 ; 2 0 0
  end 2 3 to 2 3
block 2 from 1
  4 = 1 ; 1 1 0
  5 = 4 2 4 ; 1 0 0
  end 1 -1 to 1
block 3 from 1
  end 3 2 to
`},
		{api.Func{
			Name:   "odd",
			Ins:    []api.Ins{{}, {Op: -1, Type: -2, Args: list(-3), N: math.MinInt64, To: -4}, {Op: api.OpCall, N: math.MaxInt64, To: 17, Args: list(9, 9)}},
			Blocks: []api.Block{{List: list(2, 7, -1, 1, 2)}, {}, {Preds: list(5), Term: api.Term{Kind: 9, Arg: 8, To: list(-1)}}},
		}, `func odd : 0
block 0 from
  2 = 36 9 9 ; 0 9223372036854775807 17
  1 = -1 -3 ; -2 -9223372036854775808 -4
  2 = 36 9 9 ; 0 9223372036854775807 17
  end 0 0 to
block 1 from
  end 0 0 to
block 2 from 5
  end 9 8 to -1
`},
	} {
		if got := Print(c.f); got != c.want {
			t.Errorf("%s, not %s", got, c.want)
		}
	}
}

// Rule 2: what is handed in stays as it is.
func TestAskedStays(t *testing.T) {
	f, p := counts(), api.Prog{Funcs: []api.Func{counts()}}
	Clone(f)
	CloneProg(p)
	Same(f, f)
	SameProg(p, p)
	Size(p)
	Print(f)
	Compact(f)
	New(f).Done()
	want(t, f, counts())
	want(t, p.Funcs[0], counts())
}
