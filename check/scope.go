package check

// spot is a name in a block, told by how deep the block stands: there is one variable at most.
type spot struct {
	name string
	deep int
}

// variable is what is known of one: which of its function it is, its type, whether it may not be set.
type variable struct {
	n     int64
	kind  int
	fixed bool
}

// scope is what names stand for at one place of a function. Blocks are 1 deep and deeper.
type scope struct {
	vars   map[spot]variable // of the blocks around that place
	inner  map[string]int    // how deep the innermost block stands that has a name; 0: none has
	blocks []map[string]int  // of each block around: the names that it has, and what inner was of them ahead of it
	count  int               // how many variables were made
}

func newScope() scope {
	return scope{vars: map[spot]variable{}, inner: map[string]int{}}
}

func (s *scope) enter() {
	s.blocks = append(s.blocks, map[string]int{})
}

// leave goes over the names of the innermost block alone: a function may have many blocks, and many names around them.
func (s *scope) leave() {
	deep := len(s.blocks)
	for name, before := range s.blocks[deep-1] {
		delete(s.vars, spot{name, deep})
		s.inner[name] = before
	}
	s.blocks = s.blocks[:deep-1]
}

// has tells whether the innermost block has a name.
func (s *scope) has(name string) bool {
	_, ok := s.vars[spot{name, len(s.blocks)}]
	return ok
}

// add makes a variable in the innermost block, which does not have its name: which one it is.
func (s *scope) add(name string, v variable) int64 {
	deep := len(s.blocks)
	s.blocks[deep-1][name] = s.inner[name]
	s.inner[name] = deep
	v.n = int64(s.count)
	s.vars[spot{name, deep}] = v
	s.count++
	return v.n
}

// find is what a name stands for; false: for nothing.
func (s *scope) find(name string) (variable, bool) {
	v, ok := s.vars[spot{name, s.inner[name]}]
	return v, ok
}
