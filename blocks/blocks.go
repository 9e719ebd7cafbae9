// Package blocks is a memory of blocks whose cells may be told by a rule, so that a block costs no more than what is written in it. Package mem shows it with cells that are listed.
package blocks

// Kinds of values.
const (
	Unset    = 0
	Number   = 1
	Pointer  = 2
	Function = 3
)

// Value is what a cell holds.
type Value struct {
	Kind       int
	N          int64
	Block, Off int
}

// Shape tells which cells a block has, and what stands in each at first.
type Shape interface {
	Cell(at int, typ string) (Value, bool)
}

// cell is a place of a block and the type that is held there.
type cell struct {
	at  int
	typ string
}

// block is one that is there. The cell that was written first lies in it, as most blocks have no other one; held are the rest.
type block struct {
	size    int
	shape   Shape
	written bool
	first   cell
	one     Value
	held    map[cell]Value
}

// Store is a memory.
type Store struct {
	blocks map[int]*block
	made   int
}

// New answers an empty memory.
func New() *Store { return &Store{blocks: map[int]*block{}} }

// Add makes a block, and answers its number.
func (s *Store) Add(size int, shape Shape) int {
	s.made++
	s.blocks[s.made] = &block{size: max(size, 1), shape: shape}
	return s.made
}

// End takes a block away.
func (s *Store) End(b int) { delete(s.blocks, b) }

// Clear brings a block back to what it was at first.
func (s *Store) Clear(b int) {
	if k := s.blocks[b]; k != nil {
		k.written, k.held = false, nil
	}
}

// Size answers a block's size; 0, if there is no such one.
func (s *Store) Size(b int) int {
	if k := s.blocks[b]; k != nil {
		return k.size
	}
	return 0
}

// cell answers the block that p points to, and what its cell there has at first.
func (s *Store) cell(p Value, typ string) (*block, Value, bool) {
	k := s.blocks[p.Block]
	if p.Kind != Pointer || k == nil {
		return nil, Value{}, false
	}
	v, ok := k.shape.Cell(p.Off, typ)
	return k, v, ok
}

// Read answers what stands where p points to.
func (s *Store) Read(p Value, typ string) (Value, bool) {
	k, v, ok := s.cell(p, typ)
	if !ok {
		return Value{}, false
	}
	c := cell{p.Off, typ}
	if k.written && k.first == c {
		v = k.one
	} else if w, held := k.held[c]; held {
		v = w
	}
	if v.Kind == Unset {
		return Value{}, false
	}
	return v, true
}

// Write brings v to where p points to.
func (s *Store) Write(p Value, typ string, v Value) bool {
	k, _, ok := s.cell(p, typ)
	if !ok {
		return false
	}
	c := cell{p.Off, typ}
	switch {
	case !k.written:
		k.written, k.first, k.one = true, c, v
	case k.first == c:
		k.one = v
	default:
		if k.held == nil {
			k.held = map[cell]Value{}
		}
		k.held[c] = v
	}
	return true
}

// at answers the block that p points into, or right behind; nil, if there is no such one.
func (s *Store) at(p Value) *block {
	k := s.blocks[p.Block]
	if p.Kind != Pointer || k == nil || !k.spans(int64(p.Off)) {
		return nil
	}
	return k
}

// spans tells whether a place is one of the block's bytes, or right behind the last one.
func (k *block) spans(off int64) bool { return off >= 0 && off <= int64(k.size) }

// Move answers p so many bytes on.
func (s *Store) Move(p Value, by int64) (Value, bool) {
	k := s.at(p)
	if k == nil {
		return Value{}, false
	}
	// A sum of more than 64 bits wraps round to one below 0, as what p has is not below 0.
	to := int64(p.Off) + by
	if !k.spans(to) {
		return Value{}, false
	}
	return Value{Kind: Pointer, Block: p.Block, Off: int(to)}, true
}

// within tells whether both point into, or right behind, one block that is there.
func (s *Store) within(p Value, q Value) bool {
	return p.Block == q.Block && s.at(p) != nil && s.at(q) != nil
}

// Less tells whether p is the lesser one.
func (s *Store) Less(p Value, q Value) (bool, bool) {
	if !s.within(p, q) {
		return false, false
	}
	return p.Off < q.Off, true
}

// Distance answers how many bytes p is behind q.
func (s *Store) Distance(p Value, q Value) (int64, bool) {
	if !s.within(p, q) {
		return 0, false
	}
	return int64(p.Off - q.Off), true
}

// Equal tells whether both are the same.
func (s *Store) Equal(p Value, q Value) (bool, bool) {
	switch {
	case p.Kind == Number && q.Kind == Number, p.Kind == Function && q.Kind == Function:
		return p.N == q.N, true
	case p.Kind == Function && None(q), q.Kind == Function && None(p):
		return false, true
	case p.Kind != Pointer || q.Kind != Pointer:
		return false, false
	case p.Block == q.Block:
		return p.Off == q.Off, true
	}
	return false, s.sure(p) && s.sure(q)
}

// None tells whether a value is the pointer to none.
func None(p Value) bool { return p.Kind == Pointer && p.Block == 0 && p.Off == 0 }

// sure tells whether a pointer is surely another one than each to another block.
func (s *Store) sure(p Value) bool {
	k := s.blocks[p.Block]
	return None(p) || k != nil && p.Off != k.size
}
