package interp

import (
	"distaff/api"
	"distaff/arith"
)

// What a step does.
const (
	stepPay    = iota // takes its fuel
	stepNumber        // n
	stepGet           // the value at
	stepSet           // the value at
	stepTrim          // leaves n values
	stepJump          // leaves n values, goes on at
	stepUnless        // of 0 goes on at
	stepAnd           // of 0 goes on at, and keeps it
	stepOr            // of another one than 0 goes on at, and keeps it
	stepCall          // the function at, of n arguments
	stepBack
	stepOne  // the operation n
	stepTwo  // the operation n
	stepNew  // of n numbers
	stepCell // of n numbers
	stepPut  // of n numbers
	stepRows // of a row, too: how long it is
	stepCols
	stepInput
	stepPrint
)

// step is one of those that a program's run consists of. It takes the values that it asks for from the stack, and lays there what it comes to.
type step struct {
	do   int
	fuel int64 // taken ahead of what it does
	n    int64
	at   int
}

func (r *runner) step() {
	s := &r.steps[r.next]
	r.next++
	r.take(s.fuel)
	switch s.do {
	case stepNumber:
		r.push(value{n: s.n})
	case stepGet:
		r.push(r.stack[r.base+s.at])
	case stepSet:
		r.stack[r.base+s.at] = r.pop()
	case stepTrim:
		r.trim(int(s.n))
	case stepJump:
		r.trim(int(s.n))
		r.next = s.at
	case stepUnless:
		if r.pop().n == 0 {
			r.next = s.at
		}
	case stepAnd, stepOr:
		r.short(s)
	case stepCall:
		r.enter(s.at, int(s.n))
	case stepBack:
		r.leave()
	default:
		r.reckon(s)
	}
}

// short leaves out the second one of && and ||, if the first one tells.
func (r *runner) short(s *step) {
	first := r.pop()
	if (first.n != 0) == (s.do == stepOr) {
		r.push(first)
		r.next = s.at
	}
}

// reckon does the steps behind which the next one always follows.
func (r *runner) reckon(s *step) {
	switch s.do {
	case stepOne:
		n, _ := arith.One(int(s.n), r.pop().n)
		r.push(value{n: n})
	case stepTwo:
		r.two(int(s.n))
	case stepNew:
		r.create(s.n)
	case stepCell:
		r.push(value{n: *r.cell(s.n)})
	case stepPut:
		n := r.pop().n
		*r.cell(s.n) = n
	case stepRows:
		r.push(value{n: r.pop().of.rows})
	case stepCols:
		r.push(value{n: r.pop().of.cols})
	case stepInput:
		r.input()
	case stepPrint:
		r.seen.Events = append(r.seen.Events, r.pop().n)
	}
}

func (r *runner) two(op int) {
	b := r.pop().n
	a := r.pop().n
	n, ok := arith.Do(op, a, b)
	if !ok {
		trap(api.TrapDivide)
	}
	r.push(value{n: n})
}

// create makes rows of as many numbers as say how long they are: the fuel for all cells is taken ahead of making any.
func (r *runner) create(numbers int64) {
	cols := int64(1)
	if numbers == 2 {
		cols = r.pop().n
	}
	rows := r.pop().n
	// Both are held against the limit first: else the product might go round.
	if !below(rows, api.MostCells+1) || !below(cols, api.MostCells+1) || rows*cols > api.MostCells {
		trap(api.TrapLength)
	}
	r.take(rows * cols)
	r.push(value{of: &table{rows: rows, cols: cols, cells: make([]int64, rows*cols)}})
	r.seen.Cells += rows * cols
	r.seen.Rows++
}

// cell is the cell that is found by so many numbers.
func (r *runner) cell(numbers int64) *int64 {
	col := int64(0)
	if numbers == 2 {
		col = r.pop().n
	}
	row := r.pop().n
	of := r.pop().of
	if !below(row, of.rows) || !below(col, of.cols) {
		trap(api.TrapIndex)
	}
	return &of.cells[row*of.cols+col]
}

// below tells whether a number is one from 0 on, and below another one.
func below(n, most int64) bool {
	return n >= 0 && n < most
}

func (r *runner) input() {
	if len(r.in) == 0 {
		trap(api.TrapInput)
	}
	r.push(value{n: r.in[0]})
	r.in = r.in[1:]
}
