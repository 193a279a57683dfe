package code

import (
	"math"
	"reflect"
	"strings"
	"testing"

	"distaff/api"
	"distaff/sound"
)

func list(l ...int) []int { return l }

// bytes is single bytes one behind the other, and texts as they are.
func bytes(parts ...any) string {
	var s []byte
	for _, p := range parts {
		switch x := p.(type) {
		case int:
			s = append(s, byte(x))
		case string:
			s = append(s, x...)
		}
	}
	return string(s)
}

// rowBytes is a row as bytes.
func rowBytes(l []int) string {
	var s strings.Builder
	s.WriteString(parts(uint64(len(l))))
	for _, n := range l {
		s.WriteString(parts(uint64(n + 1)))
	}
	return s.String()
}

// least is a sound program with as little as may be: a main that returns a number.
func least(name string, n int64) api.Prog {
	return api.Prog{Funcs: []api.Func{{
		Name:   name,
		Ret:    api.TypeInt,
		Ins:    []api.Ins{{Op: api.OpConst, Type: api.TypeInt, N: n}},
		Blocks: []api.Block{{List: list(0), Term: api.Term{Kind: api.TermRet}}},
	}}}
}

// leastBytes is what it is as bytes.
func leastBytes(name string, n int64) string {
	return bytes(0, 1, parts(uint64(len(name))), name, 0, 1, 1, 1, 1, 0, Num(Sign(n)), 0, 1, 1, 1, 0, 3, 1, 0)
}

// whole is a sound program of two functions, with all kinds of ends, rows of many numbers, and an instruction of OpNone.
func whole() api.Prog {
	counts := api.Func{
		Name:   "counts",
		Params: list(api.TypeInt, api.TypeBool, api.TypeMat),
		Ret:    api.TypeVoid,
		Ins: []api.Ins{
			{Op: api.OpParam, Type: api.TypeInt},
			{Op: api.OpParam, Type: api.TypeBool, N: 1},
			{Op: api.OpPhi, Type: api.TypeInt, Args: list(0, 3)},
			{Op: api.OpAdd, Type: api.TypeInt, Args: list(2, 0)},
			{},
			{Op: api.OpGuard, Args: list(1), N: api.TrapLength},
			{Op: api.OpConst, Type: api.TypeInt, N: math.MinInt64},
		},
		Blocks: []api.Block{
			{List: list(1, 0), Term: api.Term{Kind: api.TermJump, Arg: -1, To: list(2)}},
			{List: list(5, 6), Preds: list(2), Term: api.Term{Kind: api.TermRet, Arg: -1}},
			{List: list(2, 3), Preds: list(0, 3), Term: api.Term{Kind: api.TermBranch, Arg: 1, To: list(3, 1)}},
			{Preds: list(2), Term: api.Term{Kind: api.TermJump, Arg: -1, To: list(2)}},
		},
	}
	main := api.Func{
		Ret: api.TypeInt,
		Ins: []api.Ins{
			{Op: api.OpConst, Type: api.TypeInt, N: -150},
			{Op: api.OpConst, Type: api.TypeBool, N: 1},
			{Op: api.OpNew2, Type: api.TypeMat, Args: list(0, 0)},
			{Op: api.OpCall, Args: list(0, 1, 2)},
			{Op: api.OpCall, Type: api.TypeInt, To: 1},
		},
		Blocks: []api.Block{{List: list(0, 1, 2, 3, 4), Term: api.Term{Kind: api.TermRet, Arg: 4}}},
	}
	return api.Prog{Funcs: []api.Func{counts, main}, Main: 1}
}

// wholeBytes is whole as bytes, by the chapter's words.
func wholeBytes() string {
	return bytes(1, 2,
		6, "counts", 3, 2, 3, 5, 0,
		7,
		2, 1, 0, 0, 0,
		2, 2, 0, 2, 0,
		3, 1, 2, 1, 4, 0, 0,
		4, 1, 2, 3, 1, 0, 0,
		0, 0, 0, 0, 0,
		35, 0, 1, 2, 6, 0,
		1, 1, 0, "\xff\xff\xff\xff\xff\xff\xff\xff\xff\x01", 0,
		4,
		2, 2, 1, 0, 1, 0, 1, 3,
		2, 6, 7, 1, 3, 3, 0, 0,
		2, 3, 4, 2, 1, 4, 2, 2, 2, 4, 2,
		0, 1, 3, 1, 0, 1, 3,
		0, 0, 1,
		5,
		1, 1, 0, "\xab\x02", 0,
		1, 2, 0, 2, 0,
		31, 4, 2, 1, 1, 0, 0,
		36, 0, 3, 1, 2, 3, 0, 0,
		36, 1, 0, 0, 1,
		1,
		5, 1, 2, 3, 4, 5, 0, 3, 5, 0)
}

// encodes asks that a sound program comes to bytes, and these to it.
func encodes(t *testing.T, p api.Prog, want string) {
	t.Helper()
	if why, n := sound.Prog(p); why != api.FlawNone {
		t.Fatal("not sound:", why, n)
	}
	if got := Encode(p); got != want {
		t.Errorf("%x, not %x", short(got), short(want))
	}
	decodes(t, want, p)
}

// Promise 12.2: Encode of sound programs, and Decode of their bytes.
func TestEncode(t *testing.T) {
	encodes(t, whole(), wholeBytes())
	for _, n := range []int64{0, 1, -1, 63, 64, -64, -65, 1 << 40, math.MaxInt64, math.MinInt64} {
		encodes(t, least("main", n), leastBytes("main", n))
	}
	for _, name := range []string{"", "x", "main", "\x00", "\xff\x80", "\u00fc \n", strings.Repeat("a", 127), strings.Repeat("b", 128), strings.Repeat("c", 1<<14), strings.Repeat("\xff", 1<<19)} {
		encodes(t, least(name, 7), leastBytes(name, 7))
	}
}

// Promise 12.2: as many functions and arguments as there may be, Main the last one.
func TestEncodeMany(t *testing.T) {
	p := api.Prog{Main: api.MostFns - 1}
	s := "\xff\x01\x80\x02"
	for range api.MostFns {
		p.Funcs = append(p.Funcs, least("f", 1).Funcs...)
		s += leastBytes("f", 1)[2:]
	}
	encodes(t, p, s)
	f := &p.Funcs[0]
	rows := "\x10"
	for n := range api.MostParams {
		f.Params = append(f.Params, api.TypeInt+n%4)
		rows += bytes(api.TypeInt + n%4 + 1)
	}
	encodes(t, p, s[:4]+"\x01f"+rows+s[7:])
}

// Promise 12.2: a row whose numbers, and how many they are, take more than one byte.
func TestEncodeLong(t *testing.T) {
	const many = 20000
	p := least("main", 1)
	f := &p.Funcs[0]
	f.Ins, f.Blocks[0].List = nil, nil
	for n := range many {
		f.Ins = append(f.Ins, api.Ins{Op: api.OpConst, Type: api.TypeInt, N: 1})
		f.Blocks[0].List = append(f.Blocks[0].List, many-1-n)
	}
	f.Blocks[0].Term.Arg = many - 1
	encodes(t, p, bytes(0, 1, 4, "main", 0, 1,
		parts(many), strings.Repeat("\x01\x01\x00\x02\x00", many),
		1, rowBytes(f.Blocks[0].List), 0, 3, parts(many), 0))
}

// R2, R3, R4: what was handed in stays, the same calls answer the same, and lists that are empty are as good as nil.
func TestEncodeOwn(t *testing.T) {
	p := whole()
	for range 3 {
		if got := Encode(p); got != wholeBytes() {
			t.Fatalf("%x", got)
		}
		if !reflect.DeepEqual(p, whole()) {
			t.Fatalf("changed: %#v", p)
		}
	}
	for n := range p.Funcs {
		f := &p.Funcs[n]
		f.Params = append(list(), f.Params...)
		for i := range f.Ins {
			f.Ins[i].Args = append(list(), f.Ins[i].Args...)
		}
		for b := range f.Blocks {
			k := &f.Blocks[b]
			k.List, k.Preds, k.Term.To = append(list(), k.List...), append(list(), k.Preds...), append(list(), k.Term.To...)
		}
	}
	encodes(t, p, wholeBytes())
}
