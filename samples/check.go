package samples

import (
	"distaff/api"
	"distaff/ir"
)

// lists is all lists of numbers that a function has.
func lists(f *api.Func) []*[]int {
	out := []*[]int{&f.Params}
	for id := range f.Ins {
		out = append(out, &f.Ins[id].Args)
	}
	for b := range f.Blocks {
		k := &f.Blocks[b]
		out = append(out, &k.List, &k.Preds, &k.Term.To)
	}
	return out
}

// spoil writes over a list, and over the room behind it.
func spoil(l []int) {
	l = l[:cap(l)]
	for i := range l {
		l[i] = -9
	}
}

// Spoil writes over all that a function has.
func Spoil(f api.Func) {
	for _, l := range lists(&f) {
		spoil(*l)
	}
	clear(f.Ins)
	clear(f.Blocks)
}

// Shares tells what is wrong with what a pass answers of a function: it answers otherwise another time, changes what is handed in, or its answer has lists that share with that, or with one another. Nothing: it is fine.
func Shares(pass func(api.Func) api.Func, f api.Func) string {
	f = ir.Clone(f)
	before, first := ir.Clone(f), ir.Clone(pass(f))
	for n := range lists(&first) {
		got := pass(f)
		if !ir.Same(got, first) {
			return "another answer:\n" + ir.Print(got)
		}
		l := lists(&got)[n]
		spoil(*l)
		*l = *lists(&first)[n]
		if !ir.Same(got, first) || !ir.Same(f, before) {
			return "lists that share:\n" + ir.Print(got) + ir.Print(f)
		}
	}
	got := pass(f)
	Spoil(f)
	if !ir.Same(got, first) {
		return "shares with what was handed in:\n" + ir.Print(got)
	}
	return ""
}
