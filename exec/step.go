package exec

import (
	"distaff/api"
	"distaff/arith"
)

// step does the next instruction, or the end of the block behind the last one.
func (r *runner) step() {
	if !r.take(1) {
		return
	}
	at, l := r.now.at, r.list()
	if at == len(l) {
		r.end()
		return
	}
	r.now.at++
	r.do(l[at], at)
}

// do does an instruction, which stands at a place of its block.
func (r *runner) do(id, at int) {
	x := &r.funcs[r.now.which].Ins[id]
	switch x.Op {
	case api.OpConst:
		r.set(id, value{n: x.N})
	case api.OpParam:
		r.set(id, r.args[r.now.args+int(x.N)])
	case api.OpPhi:
		r.set(id, r.coming[at])
	case api.OpSelect:
		r.choose(id, x)
	case api.OpLen, api.OpRows:
		r.set(id, value{n: r.get(x.Args[0]).of.rows})
	case api.OpCols:
		r.set(id, value{n: r.get(x.Args[0]).of.cols})
	case api.OpNew, api.OpNew2:
		r.create(id, x)
	case api.OpLoad, api.OpStore:
		r.cell(id, x)
	case api.OpPrint:
		r.seen.Events = append(r.seen.Events, r.get(x.Args[0]).n)
	case api.OpInput:
		r.input(id)
	case api.OpGuard:
		if r.get(x.Args[0]).n == 0 {
			r.stop(api.EndTrap, x.N)
		}
	case api.OpCall:
		r.call(x)
	default:
		r.reckon(id, x)
	}
}

func (r *runner) choose(id int, x *api.Ins) {
	if r.get(x.Args[0]).n != 0 {
		r.set(id, r.get(x.Args[1]))
	} else {
		r.set(id, r.get(x.Args[2]))
	}
}

// create makes rows: the fuel for all cells is taken ahead of making any.
func (r *runner) create(id int, x *api.Ins) {
	rows, cols := r.get(x.Args[0]).n, int64(1)
	if x.Op == api.OpNew2 {
		cols = r.get(x.Args[1]).n
	}
	// Both are held against the limit first: else the product might go round.
	if !below(rows, api.MostCells+1) || !below(cols, api.MostCells+1) || rows*cols > api.MostCells {
		r.stop(api.EndStuck, 0)
		return
	}
	if r.take(rows * cols) {
		r.set(id, value{of: &table{rows: rows, cols: cols, cells: make([]int64, rows*cols)}})
	}
}

// cell reads a cell, or writes it.
func (r *runner) cell(id int, x *api.Ins) {
	cells, at := r.get(x.Args[0]).of.cells, r.get(x.Args[1]).n
	if !below(at, int64(len(cells))) {
		r.stop(api.EndStuck, 0)
		return
	}
	if x.Op == api.OpStore {
		cells[at] = r.get(x.Args[2]).n
	} else {
		r.set(id, value{n: cells[at]})
	}
}

// below tells whether a number is one from 0 on, and below another one.
func below(n, most int64) bool {
	return n >= 0 && n < most
}

func (r *runner) input(id int) {
	if len(r.in) == 0 {
		r.stop(api.EndTrap, api.TrapInput)
		return
	}
	r.set(id, value{n: r.in[0]})
	r.in = r.in[1:]
}

// call lays the arguments on their stack, and begins the function.
func (r *runner) call(x *api.Ins) {
	begin := len(r.args)
	for _, a := range x.Args {
		r.args = add(r.args, r.get(a))
	}
	r.outer = add(r.outer, r.now)
	r.enter(x.To, begin)
}

// reckon does an operation of one or two numbers.
func (r *runner) reckon(id int, x *api.Ins) {
	a := r.get(x.Args[0]).n
	if arith.Unary(x.Op) {
		n, _ := arith.One(x.Op, a)
		r.set(id, value{n: n})
		return
	}
	n, ok := arith.Do(x.Op, a, r.get(x.Args[1]).n)
	if !ok {
		r.stop(api.EndStuck, 0)
		return
	}
	r.set(id, value{n: n})
}

// end does the end of the block.
func (r *runner) end() {
	f := &r.funcs[r.now.which]
	e := &f.Blocks[r.now.block].Term
	switch e.Kind {
	case api.TermJump:
		r.turn(0)
	case api.TermBranch:
		if r.get(e.Arg).n != 0 {
			r.turn(0)
		} else {
			r.turn(1)
		}
	case api.TermRet:
		if e.Arg < 0 {
			r.leave(value{})
		} else {
			r.leave(r.get(e.Arg))
		}
	}
}

// turn goes over one of the block's ways. What comes over it is taken ahead of all that the next block does: else an OpPhi might take what another one has just come to.
func (r *runner) turn(way int) {
	f := &r.funcs[r.now.which]
	from := f.come[r.now.block][way]
	r.now.block, r.now.at = f.Blocks[r.now.block].Term.To[way], 0
	r.coming = r.coming[:0]
	for _, id := range r.list() {
		x := &f.Ins[id]
		if x.Op != api.OpPhi {
			break
		}
		r.coming = append(r.coming, r.get(x.Args[from]))
	}
}
