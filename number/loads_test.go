package number

import (
	"testing"

	"distaff/api"
)

// rows is a main's beginning: a number, and two rows of so many cells.
func rows() []api.Ins {
	return []api.Ins{number(3), input(), ins(api.OpNew, api.TypeArr, 0), ins(api.OpNew, api.TypeArr, 0)}
}

func load(of, at int) api.Ins { return ins(api.OpLoad, api.TypeInt, of, at) }

func store(of, at, what int) api.Ins { return ins(api.OpStore, api.TypeVoid, of, at, what) }

// Promise 16.1: a cell that was read is read again only where it may have been written since: rows may be the same ones by another name.
func TestLoads(t *testing.T) {
	with := func(l ...api.Ins) api.Func { return straight(4, append(rows(), l...)...) }
	want(t, with(load(2, 1), load(2, 1), ins(api.OpAdd, api.TypeInt, 4, 5)), with(load(2, 1), ins(api.OpAdd, api.TypeInt, 4, 4)))
	want(t, with(load(2, 1), show(4), input(), ins(api.OpNew, api.TypeArr, 0), load(2, 1), show(8)), with(load(2, 1), show(4), input(), ins(api.OpNew, api.TypeArr, 0), show(4)))
	// By an index that is the same computed.
	want(t, with(load(2, 0), number(3), load(2, 5)), with(load(2, 0)))
	stays(t, with(load(2, 1), load(2, 0), load(3, 1)))
	for _, written := range list(2, 3) {
		for _, cell := range list(0, 1) {
			stays(t, with(load(2, 1), store(written, cell, 1), load(2, 1)))
			want(t, with(load(2, 1), store(written, cell, 1), load(2, 1), load(2, 1), show(7)), with(load(2, 1), store(written, cell, 1), load(2, 1), show(6)))
		}
	}
	// What is written is read once all the same.
	stays(t, with(load(2, 1), store(2, 0, 4), load(2, 0)))
}

// Promise 16.1: what is called may write cells.
func TestLoadsAndCalls(t *testing.T) {
	f := straight(4, append(rows(), load(2, 1), api.Ins{Op: api.OpCall, Type: api.TypeInt, Args: list(2), To: 1}, load(2, 1), load(2, 1), show(7))...)
	is := straight(4, append(rows(), load(2, 1), api.Ins{Op: api.OpCall, Type: api.TypeInt, Args: list(2), To: 1}, load(2, 1), show(6))...)
	wants(t, f, is)
}

// Promise 16.1: over one way alone a block is come to with the cells as they were left; over two ways they may have been written on one of them.
func TestLoadsInBlocks(t *testing.T) {
	ahead := append(rows(), ins(api.OpLt, api.TypeBool, 0, 1), load(2, 1))
	with := func(lists ...[]api.Ins) api.Func {
		return filled(choice(ahead, 4), 5, lists...)
	}
	again, write, none := []api.Ins{load(2, 1)}, []api.Ins{store(2, 1, 1)}, []api.Ins{}
	want(t, with(again, again, again), with())
	stays(t, with(none, none, none, again))
	stays(t, with(none, write, none, again))
	want(t, with(none, write, again, again), with(none, write, none, again))
	stays(t, with(write, again, again, again))
	stays(t, with(none, append(write, again...)))
	want(t, with(append(write, again...), again, append(write, again...), again), with(append(write, again...), none, append(write, again...), again))
	// Read on neither side.
	want(t, with(none, none, none, append(again, again...)), with(none, none, none, again))
}

// Promise 16.1: in a loop a cell may have been written the time ahead, even behind where it is read.
func TestLoadsInLoops(t *testing.T) {
	for _, written := range []bool{false, true} {
		loop := func(behind int, head, body []api.Ins) api.Func {
			if written {
				body = append(body, store(3, 0, 1))
			}
			f := round(4, append(rows(), load(2, 1)), append(head, ins(api.OpLt, api.TypeBool, 0, 1)), body, 4+len(head)+1)
			for range behind {
				f.Blocks[3].List = append(f.Blocks[3].List, len(f.Ins))
				f.Ins = append(f.Ins, load(2, 1))
			}
			return f
		}
		again := []api.Ins{load(2, 1)}
		stays(t, loop(0, again, nil))
		want(t, loop(1, again, again), loop(0, again, nil))
		want(t, loop(2, nil, append(again, again...)), loop(1, nil, again))
	}
}
