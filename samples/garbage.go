package samples

import (
	"slices"

	"distaff/api"
)

// Garbage makes a function by chance, of which nothing need be right.
func Garbage(r Dice) api.Func {
	blocks, many := r.Intn(6), r.Intn(14)
	some := func(most, below int) []int {
		var l []int
		for range r.Intn(most + 1) {
			l = append(l, r.Intn(below+2)-1)
		}
		return l
	}
	f := api.Func{Name: "f", Params: some(3, 5), Ret: r.Intn(5)}
	for range many {
		x := api.Ins{Op: r.Intn(40), Type: r.Intn(5), Args: some(4, many), N: int64(r.Intn(9)), To: r.Intn(3)}
		switch r.Intn(6) {
		case 0, 1:
			x.Op = api.OpPhi
		case 2:
			x.Op = api.OpSelect
		case 3:
			x.Op = api.OpConst
		}
		f.Ins = append(f.Ins, x)
	}
	for range blocks {
		to := some(2, blocks)
		if r.Intn(4) > 0 {
			to = slices.DeleteFunc(to, func(b int) bool { return b < 0 || b >= blocks })
		}
		f.Blocks = append(f.Blocks, Block(api.Term{Kind: r.Intn(4), Arg: r.Intn(many+2) - 1, To: to}, some(4, blocks), some(9, many)))
	}
	return f
}
