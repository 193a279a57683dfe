package sparse

import (
	"distaff/api"
	"distaff/arith"
)

// What is known of an instruction: it only ever goes on in this order.
const (
	nothing = iota // nobody comes to it
	one            // it is always one number
	several        // it may be several numbers, or is none
)

// fact is what is known, and which number it always is.
type fact struct {
	what int
	n    int64
}

// or is what is known of what is one of both.
func (is fact) or(other fact) fact {
	switch {
	case is.what == nothing:
		return other
	case other.what == nothing || other == is:
		return is
	}
	return fact{what: several}
}

// searching is what was found out of a function so far, and what that may change.
type searching struct {
	f     *api.Func
	is    []fact   // of each instruction
	come  []bool   // of each block whether it is come to
	gone  [][]bool // of each block, of each of its Preds whether it is come to by that
	at    []int    // of each instruction in which block it stands
	users [][]use  // of each instruction
	ends  [][]int  // of each instruction the blocks whose ends go by it
	ways  [][]way  // of each block

	blocks []int // those that are come to, and were not gone through yet
	told   []int // instructions of which more is known than who uses them was told
}

// use is an instruction that uses another one, and as its how manieth Arg.
type use struct{ by, arg int }

// way is where a block stands in the Preds of another one.
type way struct{ to, place int }

// search finds out what is always one number: nobody comes to anything but the first block, as long as nothing else is found out.
func search(f *api.Func) *searching {
	s := begin(f)
	s.enter(0)
	for len(s.blocks)+len(s.told) > 0 {
		if n := len(s.blocks); n > 0 {
			b := s.blocks[n-1]
			s.blocks = s.blocks[:n-1]
			s.through(b)
			continue
		}
		n := len(s.told)
		id := s.told[n-1]
		s.told = s.told[:n-1]
		s.ask(id)
	}
	return s
}

// begin notes where all of a function stands, and who uses what.
func begin(f *api.Func) *searching {
	ins, blocks := len(f.Ins), len(f.Blocks)
	s := &searching{f: f, is: make([]fact, ins), come: make([]bool, blocks), gone: make([][]bool, blocks),
		at: make([]int, ins), users: make([][]use, ins), ends: make([][]int, ins), ways: make([][]way, blocks)}
	for id, x := range f.Ins {
		s.at[id] = none
		for arg, a := range x.Args {
			if s.hasIns(a) {
				s.users[a] = append(s.users[a], use{by: id, arg: arg})
			}
		}
	}
	for b, k := range f.Blocks {
		s.beginBlock(b, k)
	}
	return s
}

func (s *searching) beginBlock(b int, k api.Block) {
	for _, id := range k.List {
		if s.hasIns(id) {
			s.at[id] = b
		}
	}
	s.gone[b] = make([]bool, len(k.Preds))
	for place, from := range k.Preds {
		if s.hasBlock(from) {
			s.ways[from] = append(s.ways[from], way{to: b, place: place})
		}
	}
	if k.Term.Kind == api.TermBranch && s.hasIns(k.Term.Arg) {
		s.ends[k.Term.Arg] = append(s.ends[k.Term.Arg], b)
	}
}

func (s *searching) hasIns(id int) bool { return id >= 0 && id < len(s.f.Ins) }

func (s *searching) hasBlock(b int) bool { return b >= 0 && b < len(s.f.Blocks) }

// enter lets a block be come to.
func (s *searching) enter(b int) {
	if s.hasBlock(b) && !s.come[b] {
		s.come[b] = true
		s.blocks = append(s.blocks, b)
	}
}

// through does what a block does, but for its OpPhi: what comes to them was told as its ways were gone.
func (s *searching) through(b int) {
	k := s.f.Blocks[b]
	for _, id := range k.List[len(phisOf(s.f, k.List)):] {
		if s.hasIns(id) {
			s.tell(id, s.reckon(s.f.Ins[id]))
		}
	}
	s.leave(b)
}

// phisOf is the piece of a block's list in which its OpPhi stand.
func phisOf(f *api.Func, list []int) []int {
	n := 0
	for n < len(list) && list[n] >= 0 && list[n] < len(f.Ins) && f.Ins[list[n]].Op == api.OpPhi {
		n++
	}
	return list[:n]
}

// leave lets the ways behind a block be gone, as far as its end is known to go there.
func (s *searching) leave(b int) {
	t := s.f.Blocks[b].Term
	if to, known := s.side(t); known {
		s.walk(b, to)
		return
	}
	for _, to := range t.To {
		s.walk(b, to)
	}
}

// side is where an end that goes by what is always one number goes.
func (s *searching) side(t api.Term) (int, bool) {
	if t.Kind != api.TermBranch || len(t.To) != 2 {
		return none, false
	}
	is := s.fact(t.Arg)
	switch {
	case is.what != one:
		return none, false
	case is.n != 0:
		return t.To[0], true
	}
	return t.To[1], true
}

// walk goes a way: what comes over it is told to the OpPhi there. Only who has not gone it yet tells it: later Args tell themselves.
func (s *searching) walk(b, to int) {
	for _, w := range s.ways[b] {
		if w.to != to || s.gone[to][w.place] {
			continue
		}
		s.gone[to][w.place] = true
		for _, id := range phisOf(s.f, s.f.Blocks[to].List) {
			s.tell(id, s.arg(s.f.Ins[id], w.place))
		}
	}
	s.enter(to)
}

// tell adds to what is known of an instruction.
func (s *searching) tell(id int, is fact) {
	is = s.is[id].or(is)
	if is != s.is[id] {
		s.is[id] = is
		s.told = append(s.told, id)
	}
}

// ask lets all that goes by an instruction go by what is known of it now.
func (s *searching) ask(id int) {
	for _, u := range s.users[id] {
		b := s.at[u.by]
		if b == none || !s.come[b] {
			continue
		}
		x := s.f.Ins[u.by]
		switch {
		case x.Op != api.OpPhi:
			s.tell(u.by, s.reckon(x))
		case u.arg < len(s.gone[b]) && s.gone[b][u.arg]:
			s.tell(u.by, s.is[id])
		}
	}
	for _, b := range s.ends[id] {
		if s.come[b] {
			s.leave(b)
		}
	}
}

// fact is what is known of an instruction.
func (s *searching) fact(id int) fact {
	if !s.hasIns(id) {
		return fact{what: several}
	}
	return s.is[id]
}

// arg is what is known of an Arg.
func (s *searching) arg(x api.Ins, at int) fact {
	if at >= len(x.Args) {
		return fact{what: several}
	}
	return s.fact(x.Args[at])
}

// reckon is what is known of an instruction, that is no OpPhi, by what is known of its Args.
func (s *searching) reckon(x api.Ins) fact {
	switch {
	case x.Op == api.OpConst:
		return fact{what: one, n: x.N}
	case x.Op == api.OpSelect:
		return s.chosen(x)
	case arith.Unary(x.Op):
		a := s.arg(x, 0)
		if a.what != one {
			return a
		}
		return reckoned(arith.One(x.Op, a.n))
	case arith.Binary(x.Op):
		a, b := s.arg(x, 0), s.arg(x, 1)
		if a.what != one {
			return a
		}
		if b.what != one {
			return b
		}
		return reckoned(arith.Do(x.Op, a.n, b.n))
	}
	return fact{what: several}
}

// reckoned is what an operation comes to, if it comes to something.
func reckoned(n int64, ok bool) fact {
	if !ok {
		return fact{what: several}
	}
	return fact{what: one, n: n}
}

// chosen is what an OpSelect comes to: what is chosen, or one of both.
func (s *searching) chosen(x api.Ins) fact {
	c := s.arg(x, 0)
	switch {
	case c.what == nothing:
		return c
	case c.what == several:
		return s.arg(x, 1).or(s.arg(x, 2))
	case c.n != 0:
		return s.arg(x, 1)
	}
	return s.arg(x, 2)
}
