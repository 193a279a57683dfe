package samples

import (
	"distaff/api"
	"distaff/ir"
	"distaff/sound"
)

// Test is a test that is going on, as it is handed over: a *testing.T fits.
type Test interface {
	Helper()
	Fatalf(form string, what ...any)
}

// Pass is a pass that is tested: what it makes of a function, and what is wrong with what came of one (nothing: that is as the pass promises, but for what it does).
type Pass struct {
	Func  func(f api.Func) api.Func
	Wrong func(got api.Func) string
}

// Answer is what comes of a function. It asks what is promised of each answer: it is as the pass promises, once is as good as twice, and what was handed in is as it was.
func (p Pass) Answer(t Test, f api.Func) api.Func {
	t.Helper()
	got := p.Unsound(t, f)
	if again := p.Func(got); !ir.Same(again, got) {
		t.Fatalf("once more:\n%s\n%s", ir.Print(got), ir.Print(again))
	}
	if wrong := p.Wrong(got); wrong != "" {
		t.Fatalf("%s:\n%s", wrong, ir.Print(got))
	}
	return got
}

// Unsound is what comes of a function of which nothing need be right: the same each time, and what was handed in is as it was.
func (p Pass) Unsound(t Test, f api.Func) api.Func {
	t.Helper()
	before := ir.Clone(f)
	got := p.Func(f)
	if !ir.Same(f, before) {
		t.Fatalf("changed:\n%s\n%s", ir.Print(before), ir.Print(f))
	}
	if other := p.Func(f); !ir.Same(other, got) {
		t.Fatalf("another time:\n%s\n%s", ir.Print(got), ir.Print(other))
	}
	return got
}

// Want asks what comes of a main.
func (p Pass) Want(t Test, f, is api.Func) {
	t.Helper()
	Fine(t, f)
	Fine(t, is)
	p.Wants(t, f, is)
}

// Wants asks what comes of a function, which need not be a main.
func (p Pass) Wants(t Test, f, is api.Func) {
	t.Helper()
	if got := p.Answer(t, f); !ir.Same(got, is) {
		t.Fatalf("of\n%sis\n%snot\n%s", ir.Print(f), ir.Print(got), ir.Print(is))
	}
}

// Stays asks whether a main comes out as it is.
func (p Pass) Stays(t Test, f api.Func) {
	t.Helper()
	p.Want(t, f, f)
}

// Prog is a sound program all of whose functions went through the pass: it is sound, too.
func (p Pass) Prog(t Test, from api.Prog) api.Prog {
	t.Helper()
	FineProg(t, from)
	to := api.Prog{Main: from.Main}
	for _, f := range from.Funcs {
		to.Funcs = append(to.Funcs, p.Answer(t, f))
	}
	FineProg(t, to)
	return to
}

// Fine asks whether a main is sound.
func Fine(t Test, f api.Func) {
	t.Helper()
	FineProg(t, api.Prog{Funcs: []api.Func{f}})
}

// FineProg asks whether a program is sound.
func FineProg(t Test, p api.Prog) {
	t.Helper()
	if why, n := sound.Prog(p); why != api.FlawNone {
		t.Fatalf("flaw %d:\n%s", why, ir.Print(p.Funcs[n]))
	}
}
