package code

import (
	"distaff/api"
)

// mostTo is how many blocks an end goes to at most.
const mostTo = 2

// Decode is the program that bytes say, whether it is sound or not; false: they say none.
func Decode(s string) (api.Prog, bool) {
	if len(s) > api.MostBytes {
		return api.Prog{}, false
	}
	r := New(s)
	p := api.Prog{Main: upTo(r, api.MostFns), Funcs: items(r, api.MostFns, function)}
	if !r.Ok() || r.Left() > 0 {
		return api.Prog{}, false
	}
	return p, true
}

// items takes how many there are, up to a limit, and each of them.
func items[T any](r *Reader, most uint64, item func(r *Reader) T) []T {
	var l []T
	for range r.Num(most) {
		// Bytes that say that there are many need not have them.
		if !r.Ok() {
			return nil
		}
		l = append(l, item(r))
	}
	return l
}

func upTo(r *Reader, most uint64) int {
	return int(r.Num(most))
}

// one takes a number to which 1 was added.
func one(r *Reader) int {
	return upTo(r, api.MostIns) - 1
}

func row(r *Reader, most uint64) []int {
	return items(r, most, one)
}

// The fields below are taken in the order in which they stand.

func function(r *Reader) api.Func {
	return api.Func{
		Name:   r.Text(upTo(r, api.MostSource)),
		Params: row(r, api.MostParams),
		Ret:    upTo(r, api.TypeMat),
		Ins:    items(r, api.MostIns, instruction),
		Blocks: items(r, api.MostBlocks, block),
	}
}

func instruction(r *Reader) api.Ins {
	return api.Ins{
		Op:   upTo(r, api.OpCall),
		Type: upTo(r, api.TypeMat),
		Args: row(r, api.MostBlocks),
		N:    r.Int(),
		To:   upTo(r, api.MostFns),
	}
}

func block(r *Reader) api.Block {
	return api.Block{
		List:  row(r, api.MostIns),
		Preds: row(r, api.MostBlocks),
		Term:  end(r),
	}
}

func end(r *Reader) api.Term {
	return api.Term{
		Kind: upTo(r, api.TermRet),
		Arg:  one(r),
		To:   row(r, mostTo),
	}
}
