package interp

import (
	"distaff/api"
)

// nowhere is where a jump goes that has not landed yet.
const nowhere = -1

// writer lays functions down as steps, one behind the other.
type writer struct {
	steps  []step
	starts []int // where each function begins
	fuel   int64 // of what was begun, or done, since the last step: the next one takes it

	// Of the function that is laid down.
	slots map[int64]int // where each variable stands among its call's values
	high  int           // how many of them the blocks around have made
	loops []loop        // around, the innermost one last
}

// loop is what is known of a loop while its body is laid down.
type loop struct {
	high   int   // how many variables stand around its body
	outs   []int // the steps that leave it
	rounds []int // those that go to the end of a round
}

// add lays a step down: its place.
func (w *writer) add(s step) int {
	s.fuel, w.fuel = w.fuel, 0
	w.steps = append(w.steps, s)
	return len(w.steps) - 1
}

// here is the place of the next step, for steps that go there: what was begun ahead of it is not theirs to pay.
func (w *writer) here() int {
	if w.fuel > 0 {
		w.add(step{do: stepPay})
	}
	return len(w.steps)
}

// land lets steps go on here.
func (w *writer) land(jumps ...int) {
	to := w.here()
	for _, j := range jumps {
		w.steps[j].at = to
	}
}

// fn lays a function down. Behind its end it comes to 0: a run that was at a return never goes on there.
func (w *writer) fn(f api.Fn) {
	w.starts = append(w.starts, w.here())
	w.slots, w.high = map[int64]int{}, 0
	for i := range f.Params {
		w.create(int64(i))
	}
	w.block(f.Body)
	w.add(step{do: stepNumber})
	w.add(step{do: stepBack})
}

// create makes a variable of the value that stands on top. Blocks that are left hand their places on, so that a call has no more values than it made.
func (w *writer) create(n int64) {
	w.slots[n] = w.high
	w.high++
}

func (w *writer) block(l []api.Stmt) {
	high := w.high
	for _, s := range l {
		w.statement(s)
	}
	w.drop(high)
}

// drop takes the variables that were made above so many.
func (w *writer) drop(high int) {
	if w.high > high {
		w.add(step{do: stepTrim, n: int64(high)})
	}
	w.high = high
}

func (w *writer) statement(s api.Stmt) {
	w.fuel++
	switch s.Kind {
	case api.StmtVar:
		w.expr(s.Kids[0])
		w.create(s.N)
	case api.StmtSet:
		w.expr(s.Kids[0])
		w.add(step{do: stepSet, at: w.slots[s.N]})
	case api.StmtPut:
		to := s.Kids[0].Kids
		w.exprs(to)
		w.expr(s.Kids[1])
		w.add(step{do: stepPut, n: int64(len(to) - 1)})
	case api.StmtIf:
		w.choose(s)
	case api.StmtWhile:
		w.while(s)
	case api.StmtFor:
		w.count(s)
	case api.StmtBreak:
		l := &w.loops[len(w.loops)-1]
		l.outs = append(l.outs, w.jump(l.high, nowhere))
	case api.StmtContinue:
		l := &w.loops[len(w.loops)-1]
		l.rounds = append(l.rounds, w.jump(l.high, nowhere))
	case api.StmtReturn:
		w.back(s)
	case api.StmtPrint:
		w.expr(s.Kids[0])
		w.add(step{do: stepPrint})
	case api.StmtCall:
		w.expr(s.Kids[0])
		w.add(step{do: stepTrim, n: int64(w.high)})
	}
}

// jump leaves so many variables, and goes on at a step.
func (w *writer) jump(high, to int) int {
	return w.add(step{do: stepJump, n: int64(high), at: to})
}

func (w *writer) choose(s api.Stmt) {
	w.expr(s.Kids[0])
	no := w.add(step{do: stepUnless})
	w.block(s.Body)
	yes := w.jump(w.high, nowhere)
	w.land(no)
	w.block(s.Else)
	w.land(yes)
}

func (w *writer) while(s api.Stmt) {
	head := w.here()
	w.expr(s.Kids[0])
	out := w.add(step{do: stepUnless})
	outs := w.body(s.Body)
	w.jump(w.high, head)
	w.land(append(outs, out)...)
}

// count keeps both numbers as variables: the second one has no name, and stands behind the loop's own.
func (w *writer) count(s api.Stmt) {
	high, below := w.high, api.OpLt
	if s.Step < 0 {
		below = api.OpGt
	}
	w.exprs(s.Kids)
	w.create(s.N)
	w.high++
	head := w.here()
	w.add(step{do: stepGet, at: high})
	w.add(step{do: stepGet, at: high + 1})
	w.add(step{do: stepTwo, n: int64(below)})
	out := w.add(step{do: stepUnless})
	outs := w.body(s.Body)
	w.add(step{do: stepGet, at: high})
	w.add(step{do: stepNumber, n: s.Step})
	w.add(step{do: stepTwo, n: api.OpAdd})
	w.add(step{do: stepSet, at: high})
	w.jump(w.high, head)
	w.land(append(outs, out)...)
	w.drop(high)
}

// body lays a loop's body down up to the end of a round, for which fuel is taken: the steps that leave the loop.
func (w *writer) body(l []api.Stmt) []int {
	w.loops = append(w.loops, loop{high: w.high})
	w.block(l)
	last := len(w.loops) - 1
	done := w.loops[last]
	w.loops = w.loops[:last]
	w.land(done.rounds...)
	w.fuel++
	return done.outs
}

func (w *writer) back(s api.Stmt) {
	if len(s.Kids) == 0 {
		w.add(step{do: stepNumber})
	}
	w.exprs(s.Kids)
	w.add(step{do: stepBack})
}

func (w *writer) exprs(l []api.Expr) {
	for _, e := range l {
		w.expr(e)
	}
}

func (w *writer) expr(e api.Expr) {
	w.fuel++
	switch e.Kind {
	case api.ExprInt, api.ExprBool:
		w.add(step{do: stepNumber, n: e.N})
	case api.ExprName:
		w.add(step{do: stepGet, at: w.slots[e.N]})
	case api.ExprAnd:
		w.short(e, stepAnd)
	case api.ExprOr:
		w.short(e, stepOr)
	default:
		w.exprs(e.Kids)
		w.whole(e)
	}
}

func (w *writer) short(e api.Expr, do int) {
	w.expr(e.Kids[0])
	out := w.add(step{do: do})
	w.expr(e.Kids[1])
	w.land(out)
}

// whole lays down what is done behind all kids.
func (w *writer) whole(e api.Expr) {
	kids := int64(len(e.Kids))
	switch e.Kind {
	case api.ExprUnary:
		w.add(step{do: stepOne, n: int64(e.Op)})
	case api.ExprBinary:
		w.add(step{do: stepTwo, n: int64(e.Op)})
	case api.ExprCall:
		w.add(step{do: stepCall, n: kids, at: int(e.N)})
	case api.ExprIndex:
		w.add(step{do: stepCell, n: kids - 1})
	case api.ExprNew:
		w.add(step{do: stepNew, n: kids})
	case api.ExprLen, api.ExprRows:
		w.add(step{do: stepRows})
	case api.ExprCols:
		w.add(step{do: stepCols})
	case api.ExprInput:
		w.add(step{do: stepInput})
	}
}
