package sound

import (
	"math"
	"slices"
	"strings"
	"testing"

	"distaff/api"
)

// letters are the types by their numbers: nothing, int, bool, [int], [[int]].
const letters = "vibam"

// signatures are what the instructions of an operation come to, and of what; the numbers of operations stand as numbers, as the chapters tell them. Of OpPhi and OpCall nothing stands here.
func signatures(op int) []string {
	switch {
	case op == 1:
		return []string{"i:", "b:"}
	case op == 2:
		return []string{"i:"}
	case op >= 4 && op <= 14:
		return []string{"i:ii"}
	case op == 15 || op == 16:
		return []string{"i:i"}
	case op == 17 || op == 18:
		return []string{"b:ii", "b:bb"}
	case op >= 19 && op <= 23:
		return []string{"b:ii"}
	}
	return map[int][]string{
		24: {"b:b"},
		25: {"i:bii", "b:bbb", "a:baa", "m:bmm"},
		26: {"i:a"},
		27: {"i:m"},
		28: {"i:m"},
		29: {"i:ai", "i:mi"},
		30: {"a:i"},
		31: {"m:ii"},
		32: {"v:aii", "v:mii"},
		33: {"v:i", "v:b"},
		34: {"i:"},
		35: {"v:b"},
	}[op]
}

// holds is a function of one block, whose instructions 0 to 4 come to nothing, int, bool, [int] and [[int]]; 5 is the one in question, 6 is none.
func holds(x api.Ins) api.Prog {
	f := api.Func{
		Params: list(1, 2, 3, 4),
		Ins: []api.Ins{
			ins(api.OpPrint, api.TypeVoid, 1),
			param(1, 0), param(2, 1), param(3, 2), param(4, 3),
			x,
			{Type: api.TypeInt},
		},
		Blocks: []api.Block{block(ret(-1), nil, list(1, 2, 3, 4, 0, 5))},
	}
	return api.Prog{Funcs: []api.Func{f}}
}

// least is the least N that an operation may have.
func least(op int) int64 {
	if op == api.OpGuard {
		return 1
	}
	return 0
}

// Promise 10.1: of all operations (but OpPhi and OpCall), all types, and all of what there is, up to four, just what the chapter tells is sound.
func TestAllTypes(t *testing.T) {
	for op := api.OpConst; op < api.OpCall; op++ {
		if op == api.OpPhi {
			continue
		}
		fine := signatures(op)
		met := 0
		for many := range 5 {
			args := make([]int, many)
			var fill func(at int)
			fill = func(at int) {
				if at == many {
					met += typesOf(t, op, args, fine)
					return
				}
				for v := range 5 {
					args[at] = v
					fill(at + 1)
				}
			}
			fill(0)
		}
		if met != len(fine) || met == 0 {
			t.Errorf("%d is sound in %d ways, not %d", op, met, len(fine))
		}
	}
}

// typesOf asks an operation with some Args in all types: in how many it is sound.
func typesOf(t *testing.T, op int, args []int, fine []string) int {
	t.Helper()
	met := 0
	for _, is := range list(0, 1, 2, 3, 4, 5, -1, 1<<32+1) {
		sign := ":"
		if is >= 0 && is < len(letters) {
			sign = letters[is:is+1] + ":"
		}
		for _, a := range args {
			sign += letters[a : a+1]
		}
		want := api.FlawType
		if slices.Contains(fine, sign) {
			want = api.FlawNone
			met++
		}
		if got := Func(holds(api.Ins{Op: op, Type: is, Args: args, N: least(op)}), 0); got != want {
			t.Errorf("%d of type %d of %v: %d, not %d", op, is, args, got, want)
		}
	}
	return met
}

// of is the numbers, among those that holds has, of what a signature asks for.
func of(sign string) []int {
	var args []int
	for _, c := range sign {
		args = append(args, strings.IndexRune(letters, c))
	}
	return args
}

// fitting is an instruction by a signature.
func fitting(op int, sign string) api.Ins {
	return api.Ins{Op: op, Type: strings.IndexByte(letters, sign[0]), Args: of(sign[2:]), N: least(op)}
}

// Promise 10.1: To is 0 but of OpCall, N is 0 but of OpConst, OpParam and OpGuard.
func TestNumbersOfOthers(t *testing.T) {
	for op := api.OpConst; op < api.OpCall; op++ {
		for _, sign := range signatures(op) {
			for _, n := range append(outside, 1, 2) {
				x := fitting(op, sign)
				x.To = n
				if got := Func(holds(x), 0); got != api.FlawType {
					t.Errorf("%d, %s, to %d: %d", op, sign, n, got)
				}
				x.To, x.N = 0, int64(n)
				has := op == api.OpConst || op == api.OpParam || op == api.OpGuard
				if got := Func(holds(x), 0); !has && got != api.FlawType {
					t.Errorf("%d, %s, with %d: %d", op, sign, n, got)
				}
			}
		}
	}
}

// Promise 10.1: numbers of OpConst, OpParam and OpGuard.
func TestOwnNumbers(t *testing.T) {
	const far = 1 << 32
	for _, c := range []struct {
		op, is int
		fine   []int64
		wrong  []int64
	}{
		{api.OpConst, 1, []int64{0, 1, -1, far, math.MinInt64, math.MaxInt64}, nil},
		{api.OpConst, 2, []int64{0, 1}, []int64{2, -1, far, far + 1, math.MinInt64, math.MaxInt64}},
		{api.OpParam, 1, []int64{0}, []int64{1, 2, 3, 4, -1, far, math.MinInt64, math.MaxInt64}},
		{api.OpParam, 2, []int64{1}, []int64{0, 2, 3, 4, far + 1}},
		{api.OpParam, 3, []int64{2}, []int64{0, 1, 3, 4, far + 2}},
		{api.OpParam, 4, []int64{3}, []int64{0, 1, 2, 4, far + 3}},
		{api.OpParam, 0, nil, []int64{0, 1, 2, 3, 4, 5, -1}},
		{api.OpGuard, 0, []int64{1, 2, 3}, []int64{0, 4, 5, -1, far + 1, math.MinInt64, math.MaxInt64}},
	} {
		for _, n := range append(slices.Clone(c.fine), c.wrong...) {
			want := api.FlawType
			if slices.Contains(c.fine, n) {
				want = api.FlawNone
			}
			x := api.Ins{Op: c.op, Type: c.is, N: n}
			if c.op == api.OpGuard {
				x.Args = of("b")
			}
			if got := Func(holds(x), 0); got != want {
				t.Errorf("%d of type %d with %d: %d, not %d", c.op, c.is, n, got, want)
			}
		}
	}
}

// Promise 10.1: Args are instructions that are not OpNone.
func TestArgs(t *testing.T) {
	for op := api.OpConst; op < api.OpCall; op++ {
		for _, sign := range signatures(op) {
			for at := range len(sign) - 2 {
				for _, a := range append(outside, 6, 7) { // 6 is of OpNone, 7 is none
					x := fitting(op, sign)
					x.Args[at] = a
					if got := Func(holds(x), 0); got != api.FlawType {
						t.Errorf("%d, %s, of %v: %d", op, sign, x.Args, got)
					}
				}
			}
		}
	}
}

// Promise 10.1: an OpPhi comes to anything but nothing, and so does each of its Args.
func TestTypesOfPhi(t *testing.T) {
	ask := func(is int, args ...int) int {
		p := holds(ins(api.OpPhi, is, args...))
		f := &p.Funcs[0]
		f.Blocks = []api.Block{
			block(branch(2, 1, 2), nil, list(1, 2, 3, 4, 0)),
			block(jump(2), list(0), nil),
			block(ret(-1), list(0, 1), list(5)),
		}
		return Func(p, 0)
	}
	for _, is := range list(0, 1, 2, 3, 4, 5, -1) {
		for a := range 5 {
			for b := range 5 {
				want := api.FlawType
				if is == a && is == b && is != 0 {
					want = api.FlawNone
				}
				if got := ask(is, a, b); got != want {
					t.Errorf("of type %d of %d and %d: %d, not %d", is, a, b, got, want)
				}
			}
		}
	}
	for _, a := range append(outside, 6, 7) {
		if ask(1, a, 1) != api.FlawType || ask(1, 1, a) != api.FlawType {
			t.Error(a, ask(1, a, 1), ask(1, 1, a))
		}
	}
	p := holds(api.Ins{Op: api.OpPhi, Type: 1, Args: of("i"), N: 1})
	p.Funcs[0].Blocks = []api.Block{block(jump(1), nil, list(1, 2, 3, 4, 0)), block(ret(-1), list(0), list(5))}
	if got := Func(p, 0); got != api.FlawType {
		t.Error(got)
	}
	p.Funcs[0].Ins[5].N, p.Funcs[0].Ins[5].To = 0, 1
	if got := Func(p, 0); got != api.FlawType {
		t.Error(got)
	}
	p.Funcs[0].Ins[5].To = 0
	if got := Func(p, 0); got != api.FlawNone {
		t.Error(got)
	}
}

// calls is a program of one function that holds an instruction, and one more, of a signature, whose blocks are asked nothing of.
func calls(x api.Ins, sign string) api.Prog {
	p := holds(x)
	p.Funcs = append(p.Funcs, api.Func{Ret: strings.IndexByte(letters, sign[0]), Params: of(sign[2:])})
	return p
}

// Promise 10.1: an OpCall comes to what the function comes to, and has just its arguments.
func TestTypesOfCall(t *testing.T) {
	for _, sign := range []string{"v:", "i:", "b:i", "a:m", "m:a", "v:bbi", "i:iiiiiiiiiiiiiiii", "i:iiiiiiiiiiiiiiii" + "m"} {
		right := api.Ins{Op: api.OpCall, Type: strings.IndexByte(letters, sign[0]), Args: of(sign[2:]), To: 1}
		if got := Func(calls(right, sign), 0); got != api.FlawNone {
			t.Error(sign, got)
		}
		var wrong []api.Ins
		add := func(do func(x *api.Ins)) {
			x := right
			x.Args = slices.Clone(x.Args)
			do(&x)
			wrong = append(wrong, x)
		}
		for _, is := range list(0, 1, 2, 3, 4, 5, -1) {
			if is != right.Type {
				add(func(x *api.Ins) { x.Type = is })
			}
		}
		add(func(x *api.Ins) { x.Args = append(x.Args, 1) })
		add(func(x *api.Ins) { x.N = 1 })
		add(func(x *api.Ins) { x.N = -1 })
		for _, to := range append(outside, 2) {
			add(func(x *api.Ins) { x.To = to })
		}
		for at, is := range right.Args {
			add(func(x *api.Ins) { x.Args = slices.Delete(x.Args, at, at+1) })
			for a := range 5 {
				if a != is {
					add(func(x *api.Ins) { x.Args[at] = a })
				}
			}
			for _, a := range append(outside, 6, 7) {
				add(func(x *api.Ins) { x.Args[at] = a })
			}
		}
		for _, x := range wrong {
			if got := Func(calls(x, sign), 0); got != api.FlawType {
				t.Errorf("%s: %+v: %d", sign, x, got)
			}
		}
	}
}

// Promise 10.1: a function may call itself; the one that is called by another number is another one.
func TestTypesOfCallOfItself(t *testing.T) {
	p := calls(call(0, api.TypeVoid, 1, 2, 3, 4), "i:")
	if got := Func(p, 0); got != api.FlawNone {
		t.Error(got)
	}
	p.Funcs[0].Ins[5].To = 1
	if got := Func(p, 0); got != api.FlawType {
		t.Error(got)
	}
}

// Promise 10.1: a branch asks a bool, a return the function's type.
func TestTypesOfEnds(t *testing.T) {
	for id := range 5 {
		p := holds(number(0))
		p.Funcs[0].Blocks = []api.Block{
			block(branch(id, 1, 2), nil, list(1, 2, 3, 4, 0, 5)),
			block(ret(-1), list(0), nil),
			block(ret(-1), list(0), nil),
		}
		want := api.FlawType
		if id == api.TypeBool {
			want = api.FlawNone
		}
		if got := Func(p, 0); got != want {
			t.Errorf("a branch by %d: %d, not %d", id, got, want)
		}
		for is := 1; is <= 4; is++ {
			p := holds(number(0))
			p.Funcs[0].Ret, p.Funcs[0].Blocks[0].Term.Arg = is, id
			want := api.FlawType
			if id == is {
				want = api.FlawNone
			}
			if got := Func(p, 0); got != want {
				t.Errorf("a return of %d by a function of type %d: %d, not %d", id, is, got, want)
			}
		}
	}
}

// Promise 10.1: what is of OpNone stands over no end, whatever its type says.
func TestEndsByNothing(t *testing.T) {
	p := holds(number(0))
	f := &p.Funcs[0]
	f.Ret, f.Blocks[0].Term.Arg = api.TypeInt, 6
	if got := Func(p, 0); got != api.FlawDom {
		t.Error(got)
	}
	f.Ins[6] = api.Ins{}
	if got := Func(p, 0); got != api.FlawType {
		t.Error(got)
	}
}

// Promise 10.1: whether a function's types are there is asked of the program; what is of a type that is none must be so throughout.
func TestFuncOfNoType(t *testing.T) {
	f := api.Func{Params: list(9), Ret: 9, Ins: []api.Ins{param(9, 0)}, Blocks: []api.Block{block(ret(0), nil, list(0))}}
	p := api.Prog{Funcs: []api.Func{f}}
	if got := Func(p, 0); got != api.FlawNone {
		t.Error(got)
	}
	f.Ins[0].Type = 1
	if got := Func(p, 0); got != api.FlawType {
		t.Error(got)
	}
	f.Blocks[0].Term.Arg = -1
	if got := Func(p, 0); got != api.FlawShape {
		t.Error(got)
	}
}
