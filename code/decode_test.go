package code

import (
	"math"
	"reflect"
	"slices"
	"strings"
	"testing"

	"distaff/api"
)

// bare is a program with nil in the place of all lists that are empty, so that programs can be held against each other.
func bare(p api.Prog) api.Prog {
	none := func(l []int) []int {
		return append([]int(nil), l...)
	}
	out := api.Prog{Main: p.Main}
	for _, f := range p.Funcs {
		g := api.Func{Name: f.Name, Params: none(f.Params), Ret: f.Ret}
		for _, x := range f.Ins {
			x.Args = none(x.Args)
			g.Ins = append(g.Ins, x)
		}
		for _, k := range f.Blocks {
			k.List, k.Preds, k.Term.To = none(k.List), none(k.Preds), none(k.Term.To)
			g.Blocks = append(g.Blocks, k)
		}
		out.Funcs = append(out.Funcs, g)
	}
	return out
}

// short is the beginning of bytes, to be told.
func short(s string) string {
	return s[:min(len(s), 200)]
}

// decodes asks that bytes say a program.
func decodes(t *testing.T, s string, want api.Prog) {
	t.Helper()
	got, ok := Decode(s)
	if !ok || !reflect.DeepEqual(bare(got), bare(want)) {
		t.Errorf("%x: another program, %v", short(s), ok)
	}
}

// fails asks that bytes say none, and that there is nothing beside that.
func fails(t *testing.T, what, s string) {
	t.Helper()
	if got, ok := Decode(s); ok || !reflect.DeepEqual(got, api.Prog{}) {
		t.Errorf("%s: %x: %v", what, short(s), ok)
	}
}

// Promise 12.2: bytes that lack, or are left, say none.
func TestDecodeLacksOrLeft(t *testing.T) {
	for _, s := range []string{wholeBytes(), leastBytes("main", 300), "\x00\x00"} {
		if _, ok := Decode(s); !ok {
			t.Fatalf("%x", s)
		}
		for n := range len(s) {
			fails(t, "lacks", s[:n])
		}
		for b := range 256 {
			fails(t, "left", s+string([]byte{byte(b)}))
		}
		fails(t, "left", s+s)
	}
}

// Promise 12.2: each number in another form says none. (All bytes of this program are numbers of their own.)
func TestDecodeOtherForm(t *testing.T) {
	s := leastBytes("", 1)
	for n := range len(s) {
		fails(t, "a nought behind", s[:n]+string([]byte{s[n] + 128, 0})+s[n+1:])
		fails(t, "noughts behind", s[:n]+string([]byte{s[n] + 128, 128, 0})+s[n+1:])
		fails(t, "far above", s[:n]+"\xff\xff\xff\xff\xff\xff\xff\xff\xff\x02"+s[n+1:])
	}
}

// field is a part of a program's bytes.
type field int

const (
	ofMain field = iota
	ofFuncs
	ofName
	ofParams
	ofRet
	ofIns
	ofOp
	ofType
	ofArgs
	ofN
	ofTo
	ofBlocks
	ofList
	ofPreds
	ofKind
	ofArg
	ofEnds
	fields
)

// laid is the bytes of a program of one function, one instruction and one block, without any numbers; but for one field.
func laid(other field, by string) string {
	at := strings.Split("\x00,\x01,\x00,\x00,\x00,\x01,\x00,\x00,\x00,\x00,\x00,\x01,\x00,\x00,\x00,\x00,\x00", ",")
	at[other] = by
	return strings.Join(at, "")
}

// plain is the program of laid as it stands there.
func plain() api.Prog {
	return api.Prog{Funcs: []api.Func{{
		Ins:    []api.Ins{{}},
		Blocks: []api.Block{{Term: api.Term{Arg: -1}}},
	}}}
}

// Promise 12.2: one number at its limit is there; one above it, or far above, says none.
func TestDecodeNumbers(t *testing.T) {
	for _, c := range []struct {
		what string
		of   field
		most uint64
		put  func(f *api.Prog, n int)
	}{
		{"Main", ofMain, 256, func(p *api.Prog, n int) { p.Main = n }},
		{"Ret", ofRet, 4, func(p *api.Prog, n int) { p.Funcs[0].Ret = n }},
		{"Op", ofOp, 36, func(p *api.Prog, n int) { p.Funcs[0].Ins[0].Op = n }},
		{"Type", ofType, 4, func(p *api.Prog, n int) { p.Funcs[0].Ins[0].Type = n }},
		{"To", ofTo, 256, func(p *api.Prog, n int) { p.Funcs[0].Ins[0].To = n }},
		{"Kind", ofKind, 3, func(p *api.Prog, n int) { p.Funcs[0].Blocks[0].Term.Kind = n }},
		{"Arg", ofArg, 1 << 17, func(p *api.Prog, n int) { p.Funcs[0].Blocks[0].Term.Arg = n - 1 }},
	} {
		for n := range c.most + 1 {
			if n > 300 && n < c.most-300 {
				continue
			}
			p := plain()
			c.put(&p, int(n))
			decodes(t, laid(c.of, parts(n)), p)
		}
		for _, n := range []uint64{c.most + 1, c.most + 2, c.most + 128, 1 << 18, 1 << 32, 1<<32 + 1, 1 << 63, anything} {
			fails(t, c.what, laid(c.of, parts(n)))
		}
	}
}

// Promise 12.2: N is any number with a sign.
func TestDecodeN(t *testing.T) {
	for _, n := range []int64{0, 1, -1, 64, -65, 1 << 17, 1<<17 + 1, math.MaxInt64, math.MinInt64, math.MaxInt64 - 1, math.MinInt64 + 1} {
		p := plain()
		p.Funcs[0].Ins[0].N = n
		decodes(t, laid(ofN, parts(Sign(n))), p)
	}
}

// Promise 12.2: rows of as many numbers as may be, each up to its limit; one more says none.
func TestDecodeRows(t *testing.T) {
	for _, c := range []struct {
		what string
		of   field
		most int
		put  func(f *api.Func, l []int)
	}{
		{"Params", ofParams, 16, func(f *api.Func, l []int) { f.Params = l }},
		{"Args", ofArgs, 1 << 16, func(f *api.Func, l []int) { f.Ins[0].Args = l }},
		{"List", ofList, 1 << 17, func(f *api.Func, l []int) { f.Blocks[0].List = l }},
		{"Preds", ofPreds, 1 << 16, func(f *api.Func, l []int) { f.Blocks[0].Preds = l }},
		{"To", ofEnds, 2, func(f *api.Func, l []int) { f.Blocks[0].Term.To = l }},
	} {
		for _, l := range [][]int{nil, list(0), list(-1), list(5, 4), list(1<<17-1, -1), slices.Repeat(list(0), c.most-1), slices.Repeat(list(62), c.most)} {
			p := plain()
			c.put(&p.Funcs[0], l)
			decodes(t, laid(c.of, rowBytes(l)), p)
		}
		fails(t, c.what, laid(c.of, parts(uint64(c.most+1))+strings.Repeat("\x01", c.most+1)))
		fails(t, c.what, laid(c.of, parts(uint64(c.most+2))+strings.Repeat("\x00", c.most+2)))
		for _, n := range []uint64{1<<17 + 1, 1<<17 + 2, 1 << 32, 1 << 63, anything} {
			fails(t, c.what, laid(c.of, "\x01"+parts(n)))
			fails(t, c.what, laid(c.of, "\x02\x01"+parts(n)))
			fails(t, c.what, laid(c.of, parts(n)))
			fails(t, c.what, laid(c.of, parts(n)+"\x01"))
		}
	}
}

// Promise 12.2: as many functions, instructions and blocks as may be; one more says none.
func TestDecodeMany(t *testing.T) {
	for _, c := range []struct {
		what string
		of   field
		most int
		one  string
		put  func(p *api.Prog, many int)
	}{
		{"functions", ofFuncs, 256, "\x00\x00\x00\x00\x00", func(p *api.Prog, many int) { p.Funcs = append(make([]api.Func, many-1), p.Funcs...) }},
		{"instructions", ofIns, 1 << 17, "\x00\x00\x00\x00\x00", func(p *api.Prog, many int) { p.Funcs[0].Ins = make([]api.Ins, many) }},
		{"blocks", ofBlocks, 1 << 16, "\x00\x00\x00\x00\x00", func(p *api.Prog, many int) {
			p.Funcs[0].Blocks = slices.Repeat([]api.Block{{Term: api.Term{Arg: -1}}}, many)
		}},
	} {
		for _, many := range list(1, 2, 127, 128, c.most-1, c.most) {
			p := plain()
			c.put(&p, many)
			decodes(t, laid(c.of, parts(uint64(many))+strings.Repeat(c.one, many-1)), p)
		}
		fails(t, c.what, laid(c.of, parts(uint64(c.most+1))+strings.Repeat(c.one, c.most)))
		for _, n := range []uint64{0, 1 << 18, 1 << 32, 1<<32 + 1, 1 << 63, anything} {
			fails(t, c.what, laid(c.of, parts(n)))
		}
	}
	decodes(t, "\x00\x00", api.Prog{})
	decodes(t, "\x80\x02\x00", api.Prog{Main: 256})
	decodes(t, "\x00\x01\x00\x00\x00\x00\x00", api.Prog{Funcs: []api.Func{{}}})
}

// Promise 12.2: a name is bytes of any kind; one that lacks, or is too long, says none.
func TestDecodeNames(t *testing.T) {
	for _, name := range []string{"a", "\x00", "\xff\xfe", strings.Repeat("n", 127), strings.Repeat("\x80", 128), strings.Repeat("n", 1<<20-1<<8)} {
		p := plain()
		p.Funcs[0].Name = name
		decodes(t, laid(ofName, parts(uint64(len(name)))+name), p)
	}
	for _, n := range []uint64{100, 1<<20 - 1, 1 << 20, 1<<20 + 1, 1 << 32, 1 << 63, anything} {
		fails(t, "name", laid(ofName, parts(n)+"name"))
	}
}

// Promise 12.2: just MostBytes bytes say a program, one more says none.
func TestDecodeMostBytes(t *testing.T) {
	rest := len(leastBytes("", 1)) + 2 // how long a name is takes three bytes
	for _, size := range list(1<<20-1, 1<<20) {
		name := strings.Repeat("x", size-rest)
		if s := leastBytes(name, 1); len(s) != size {
			t.Fatal(len(s))
		} else {
			decodes(t, s, least(name, 1))
		}
	}
	for _, size := range list(1<<20+1, 1<<20+2, 1<<22) {
		name := strings.Repeat("x", size-rest)
		if size > 1<<21 {
			name = name[:len(name)-1]
		}
		p := least(name, 1)
		if len(Encode(p)) <= 1<<20 {
			t.Fatal(size)
		}
		fails(t, "too many bytes", Encode(p))
	}
}

// Promise 12.2: what says that there is much, and has none of it, says none.
func TestDecodeBoasts(t *testing.T) {
	many := parts(1 << 17)
	for _, s := range []string{
		"\x00\x80\x02",
		"\x00\x80\x02\x00\x00\x00" + many,
		"\x00\x80\x02\x00\x00\x00" + many + "\x00\x00" + parts(1<<16),
		"\x00\x80\x02\x00\x00\x00\x00" + parts(1<<16),
		"\x00\x80\x02\x00\x00\x00\x00" + parts(1<<16) + many,
		strings.Repeat("\x80", 1<<20),
		strings.Repeat("\xff", 1<<20),
		strings.Repeat("\x00", 1<<20),
		strings.Repeat("\x01", 1<<20),
		strings.Repeat("\x02", 1<<20),
	} {
		fails(t, "boasts", s)
	}
}

// lists are all lists of numbers that a program has.
func lists(p api.Prog) []*[]int {
	var l []*[]int
	for n := range p.Funcs {
		f := &p.Funcs[n]
		l = append(l, &f.Params)
		for i := range f.Ins {
			l = append(l, &f.Ins[i].Args)
		}
		for b := range f.Blocks {
			l = append(l, &f.Blocks[b].List, &f.Blocks[b].Preds, &f.Blocks[b].Term.To)
		}
	}
	return l
}

// R2: no two lists of an answer share any, nor do two answers.
func TestDecodeOwn(t *testing.T) {
	first, _ := Decode(wholeBytes())
	second, _ := Decode(wholeBytes())
	all := append(lists(first), lists(second)...)
	for i, l := range all {
		for j := range *l {
			(*l)[j] = i
		}
		*l = append(*l, i, i, i)
	}
	for i, l := range all {
		for _, n := range *l {
			if n != i {
				t.Fatal(i, *l)
			}
		}
	}
	for n := range first.Funcs {
		first.Funcs[n].Ins = append(first.Funcs[n].Ins, api.Ins{Op: 99})
		first.Funcs[n].Blocks[0].Term.Kind = 99
	}
	decodes(t, wholeBytes(), whole())
}
