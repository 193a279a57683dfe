package number

import (
	"distaff/api"
	"distaff/arith"
	"distaff/ir"
)

// computed is what is computed: two instructions of which it is one compute the same.
type computed struct {
	op    int
	is    int // of which type
	n     int64
	many  int // how many of args there are
	args  [3]int
	state int // of a cell, in which state of all cells it is read; else 0
}

// computedBy is what an instruction computes, if it does nothing else. What is made of something that is computed again is made of what that was at first.
func (w *numbering) computedBy(x api.Ins, state int) (computed, bool) {
	c := computed{op: x.Op, is: x.Type, n: x.N, many: len(x.Args)}
	// Only what may not be is made of more.
	if !computes(x.Op) || c.many > len(c.args) {
		return computed{}, false
	}
	if x.Op == api.OpLoad {
		c.state = state
	}
	for at, a := range x.Args {
		c.args[at] = w.one(a)
	}
	return c.ordered(), true
}

// computes tells whether an operation comes to the same each time that it is of the same, a cell as long as none is written.
func computes(op int) bool {
	switch op {
	case api.OpPhi:
		return false
	case api.OpDiv, api.OpRem, api.OpLoad:
		return true
	}
	return ir.Pure(op)
}

// writes tells whether an operation may write cells.
func writes(op int) bool {
	return op == api.OpStore || op == api.OpCall
}

// ordered is the same in the one of two orders that is told of both.
func (c computed) ordered() computed {
	op, turns := arith.Turned(c.op)
	if !turns || c.many != 2 {
		return c
	}
	a, b := c.args[0], c.args[1]
	if a > b || a == b && c.op > op {
		c.op, c.args[0], c.args[1] = op, b, a
	}
	return c
}
