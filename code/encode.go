package code

import (
	"distaff/api"
)

// writer lays down bytes one behind the other.
type writer struct {
	out []byte
}

// Encode is a program's bytes. The program is a sound one.
func Encode(p api.Prog) string {
	w := &writer{}
	w.number(p.Main)
	w.number(len(p.Funcs))
	for _, f := range p.Funcs {
		w.function(f)
	}
	return string(w.out)
}

func (w *writer) number(n int) {
	w.out = addNum(w.out, uint64(n))
}

// one lays down a number and 1, since -1 may stand there.
func (w *writer) one(n int) {
	w.number(n + 1)
}

func (w *writer) row(l []int) {
	w.number(len(l))
	for _, n := range l {
		w.one(n)
	}
}

func (w *writer) function(f api.Func) {
	w.number(len(f.Name))
	w.out = append(w.out, f.Name...)
	w.row(f.Params)
	w.number(f.Ret)
	w.number(len(f.Ins))
	for _, x := range f.Ins {
		w.instruction(x)
	}
	w.number(len(f.Blocks))
	for _, k := range f.Blocks {
		w.block(k)
	}
}

func (w *writer) instruction(x api.Ins) {
	w.number(x.Op)
	w.number(x.Type)
	w.row(x.Args)
	w.out = addNum(w.out, Sign(x.N))
	w.number(x.To)
}

func (w *writer) block(k api.Block) {
	w.row(k.List)
	w.row(k.Preds)
	w.number(k.Term.Kind)
	w.one(k.Term.Arg)
	w.row(k.Term.To)
}
