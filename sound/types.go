package sound

import (
	"slices"

	"distaff/api"
	"distaff/arith"
)

// typed tells whether all instructions, and all ends, are of the types that they may be of.
func (s *subject) typed() bool {
	for _, x := range s.f.Ins {
		if x.Op != api.OpNone && !(s.bare(x) && s.named(x) && s.fits(x)) {
			return false
		}
	}
	for _, k := range s.f.Blocks {
		if s.hasArg(k.Term) && s.f.Ins[k.Term.Arg].Type != s.asked(k.Term) {
			return false
		}
	}
	return true
}

// asked is the type that an end asks for.
func (s *subject) asked(t api.Term) int {
	if t.Kind == api.TermBranch {
		return api.TypeBool
	}
	return s.f.Ret
}

// bare tells whether an instruction has no number that is for others.
func (s *subject) bare(x api.Ins) bool {
	switch x.Op {
	case api.OpConst, api.OpParam, api.OpGuard:
		return x.To == 0
	case api.OpCall:
		return x.N == 0
	}
	return x.To == 0 && x.N == 0
}

// named tells whether all that an instruction uses is there.
func (s *subject) named(x api.Ins) bool {
	for _, a := range x.Args {
		if a < 0 || a >= len(s.f.Ins) || s.f.Ins[a].Op == api.OpNone {
			return false
		}
	}
	return true
}

// fits tells whether an instruction is of the type that it comes to, and uses what it may.
func (s *subject) fits(x api.Ins) bool {
	switch x.Op {
	case api.OpConst:
		return s.of(x) && (x.Type == api.TypeInt || x.Type == api.TypeBool && (x.N == 0 || x.N == 1))
	case api.OpParam:
		return s.of(x) && x.N >= 0 && x.N < int64(len(s.f.Params)) && x.Type == s.f.Params[x.N]
	case api.OpPhi:
		return x.Type != api.TypeVoid && s.of(x, slices.Repeat([]int{x.Type}, len(x.Args))...)
	case api.OpSelect:
		return x.Type != api.TypeVoid && s.of(x, api.TypeBool, x.Type, x.Type)
	case api.OpCall:
		return has(s.p, x.To) && x.Type == s.p.Funcs[x.To].Ret && s.of(x, s.p.Funcs[x.To].Params...)
	case api.OpGuard:
		return x.Type == api.TypeVoid && s.of(x, api.TypeBool) && x.N >= api.TrapIndex && x.N <= api.TrapLength
	}
	if arith.Binary(x.Op) || arith.Unary(x.Op) {
		return s.reckons(x)
	}
	return s.handles(x)
}

// reckons tells whether an operation of layer 1 is of the right types.
func (s *subject) reckons(x api.Ins) bool {
	comes := api.TypeInt
	if arith.Compares(x.Op) {
		comes = api.TypeBool
	}
	if x.Type != comes {
		return false
	}
	switch {
	case x.Op == api.OpFlip:
		return s.of(x, api.TypeBool)
	case arith.Unary(x.Op):
		return s.of(x, api.TypeInt)
	case x.Op == api.OpEq || x.Op == api.OpNe:
		return s.of(x, api.TypeInt, api.TypeInt) || s.of(x, api.TypeBool, api.TypeBool)
	}
	return s.of(x, api.TypeInt, api.TypeInt)
}

// handles tells whether an instruction of rows, or one that prints or reads, is of the right types.
func (s *subject) handles(x api.Ins) bool {
	switch x.Op {
	case api.OpLen:
		return x.Type == api.TypeInt && s.of(x, api.TypeArr)
	case api.OpRows, api.OpCols:
		return x.Type == api.TypeInt && s.of(x, api.TypeMat)
	case api.OpLoad:
		return x.Type == api.TypeInt && (s.of(x, api.TypeArr, api.TypeInt) || s.of(x, api.TypeMat, api.TypeInt))
	case api.OpStore:
		return x.Type == api.TypeVoid && (s.of(x, api.TypeArr, api.TypeInt, api.TypeInt) || s.of(x, api.TypeMat, api.TypeInt, api.TypeInt))
	case api.OpNew:
		return x.Type == api.TypeArr && s.of(x, api.TypeInt)
	case api.OpNew2:
		return x.Type == api.TypeMat && s.of(x, api.TypeInt, api.TypeInt)
	case api.OpPrint:
		return x.Type == api.TypeVoid && (s.of(x, api.TypeInt) || s.of(x, api.TypeBool))
	case api.OpInput:
		return x.Type == api.TypeInt && s.of(x)
	}
	return false
}

// of tells whether an instruction uses just what is of these types.
func (s *subject) of(x api.Ins, types ...int) bool {
	if len(x.Args) != len(types) {
		return false
	}
	for i, a := range x.Args {
		if s.f.Ins[a].Type != types[i] {
			return false
		}
	}
	return true
}
