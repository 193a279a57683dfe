package fold

// parts are the instructions in parts: those of a part are all the same as one of them, which alone is left. Each part has one that keeps its lists, which need not be the one that is left.
type parts struct {
	up   []int   // of each instruction one that is nearer to the one that keeps its part's lists, or that one itself
	left []int   // of the one that keeps lists: which one is left
	by   [][]int // of the one that keeps lists: who uses one of the part
}

// newParts is so many instructions, each a part of its own, that nobody uses.
func newParts(many int) parts {
	p := parts{up: make([]int, many), left: make([]int, many), by: make([][]int, many)}
	for id := range many {
		p.up[id], p.left[id] = id, id
	}
	return p
}

// use notes that an instruction, if it is there, is used by another one.
func (p *parts) use(id, by int) {
	if id != none {
		k := p.keeper(id)
		p.by[k] = append(p.by[k], by)
	}
}

// keeper is the one that keeps the lists of an instruction's part. The way there is short, as each step on it at least doubled the list.
func (p *parts) keeper(id int) int {
	for p.up[id] != id {
		id = p.up[id]
	}
	return id
}

// is the instruction that is left of a part; none, if there is no such instruction.
func (p *parts) is(id int) int {
	if id == none {
		return none
	}
	return p.left[p.keeper(id)]
}

// users are those that use one of an instruction's part.
func (p *parts) users(id int) []int {
	return p.by[p.keeper(id)]
}

// join makes one part of two, of which what is left of the second one is left: it tells the users of one of both, so that each who uses both is among them. The shorter list goes to the longer one: so none of many is moved often.
func (p *parts) join(id, by int) []int {
	less, more := p.keeper(id), p.keeper(by)
	left := p.left[more]
	if len(p.by[less]) > len(p.by[more]) {
		less, more = more, less
	}
	moved := p.by[less]
	p.up[less], p.left[more] = more, left
	p.by[more] = append(p.by[more], moved...)
	p.by[less] = nil
	return moved
}
