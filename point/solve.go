package point

import (
	"math/bits"

	"spokeshave/api"
)

// set is a set of things, by their numbers, as bits.
type set []uint64

func (s set) has(t int) bool { return t/64 < len(s) && s[t/64]>>(t%64)&1 == 1 }

// add adds a thing; it tells whether it was not there.
func (s *set) add(t int) bool {
	for len(*s) <= t/64 {
		*s = append(*s, 0)
	}
	if s.has(t) {
		return false
	}
	(*s)[t/64] |= 1 << (t % 64)
	return true
}

// join adds all of from; it tells whether some was not there.
func (s *set) join(from set) bool {
	for len(*s) < len(from) {
		*s = append(*s, 0)
	}
	more := false
	for k, w := range from {
		if w&^(*s)[k] != 0 {
			(*s)[k] |= w
			more = true
		}
	}
	return more
}

// without answers what is not in other.
func (s set) without(other set) set {
	out := make(set, len(s))
	copy(out, s)
	for k := range min(len(s), len(other)) {
		out[k] &^= other[k]
	}
	return out
}

func (s set) list() []int {
	var out []int
	for k, w := range s {
		for ; w != 0; w &= w - 1 {
			out = append(out, 64*k+bits.TrailingZeros64(w))
		}
	}
	return out
}

func (s set) count() int {
	n := 0
	for _, w := range s {
		n += bits.OnesCount64(w)
	}
	return n
}

// edge leads what one node has to another one.
type edge struct{ from, to int }

// call is an instruction that calls at an address.
type call struct {
	fn int
	i  *api.Ins
}

// solver finds the least sets. Its nodes are registers (from regs of their function on), what functions answer, and the memory of things.
type solver struct {
	prog    *api.Prog
	things  []Thing
	numbers map[Thing]int
	regs    []int
	answers []int
	memory  map[Thing]int
	sets    []set
	leads   [][]int
	edges   map[edge]int
	loads   map[int][]int
	stores  map[int][]int
	calls   map[int][]call
	waiting []int
	waits   []bool
	done    []set
}

func solve(p *api.Prog) *solver {
	s := &solver{prog: p, numbers: map[Thing]int{}, memory: map[Thing]int{}, edges: map[edge]int{}, loads: map[int][]int{}, stores: map[int][]int{}, calls: map[int][]call{}}
	count := 0
	for i := range p.Fns {
		s.regs = append(s.regs, count)
		count += max(p.Fns[i].Regs, 0)
	}
	for range p.Fns {
		s.answers = append(s.answers, count)
		count++
	}
	for g := range p.Globals {
		s.memory[Thing{Kind: Global, N: g}] = count
		count++
	}
	for f := range p.Fns {
		for n := range p.Fns[f].Slots {
			s.memory[Thing{Kind: Slot, Fn: f, N: n}] = count
			count++
		}
	}
	s.sets, s.done = make([]set, count), make([]set, count)
	s.leads, s.waits = make([][]int, count), make([]bool, count)
	s.begin()
	for len(s.waiting) > 0 {
		n := s.waiting[len(s.waiting)-1]
		s.waiting = s.waiting[:len(s.waiting)-1]
		s.waits[n] = false
		s.visit(n)
	}
	return s
}

// number answers a thing's number.
func (s *solver) number(t Thing) int {
	if n, ok := s.numbers[t]; ok {
		return n
	}
	s.numbers[t] = len(s.things)
	s.things = append(s.things, t)
	return len(s.things) - 1
}

func (s *solver) wake(n int) {
	if !s.waits[n] {
		s.waits[n] = true
		s.waiting = append(s.waiting, n)
	}
}

// give lets a node have a thing.
func (s *solver) give(n int, t Thing) {
	if s.sets[n].add(s.number(t)) {
		s.wake(n)
	}
}

// lead lets a node have all that another one has.
func (s *solver) lead(from int, to int) {
	e := edge{from, to}
	if from == to || s.edges[e] != 0 {
		return
	}
	s.edges[e] = 1
	s.leads[from] = append(s.leads[from], to)
	if s.sets[to].join(s.sets[from]) {
		s.wake(to)
	}
}

// begin takes in all instructions and pieces.
func (s *solver) begin() {
	for g := range s.prog.Globals {
		for _, k := range s.prog.Globals[g].Pieces {
			if k.Func > 0 {
				s.give(s.memory[Thing{Kind: Global, N: g}], Thing{Kind: Func, N: k.Func - 1})
			}
		}
	}
	for f := range s.prog.Fns {
		for b := range s.prog.Fns[f].Blocks {
			ins := s.prog.Fns[f].Blocks[b].Ins
			for k := range ins {
				s.take(f, &ins[k])
			}
		}
	}
}

// take takes in an instruction.
func (s *solver) take(f int, i *api.Ins) {
	base := s.regs[f]
	switch i.Op {
	case api.OpFunc:
		s.give(base+i.D, Thing{Kind: Func, N: int(i.N)})
	case api.OpGlobal:
		s.give(base+i.D, Thing{Kind: Global, N: int(i.N)})
	case api.OpSlot:
		s.give(base+i.D, Thing{Kind: Slot, Fn: f, N: int(i.N)})
	case api.OpMove:
		s.lead(base+i.A, base+i.D)
	case api.OpExt:
		if i.W.Bits == 64 {
			s.lead(base+i.A, base+i.D)
		}
	case api.OpBin:
		if i.Sub < api.Eq {
			s.lead(base+i.A, base+i.D)
			s.lead(base+i.B, base+i.D)
		}
	case api.OpLoad:
		if i.W.Bits == 64 {
			s.loads[base+i.A] = append(s.loads[base+i.A], base+i.D)
		}
	case api.OpStore:
		if i.W.Bits == 64 {
			s.stores[base+i.A] = append(s.stores[base+i.A], base+i.B)
		}
	case api.OpCall, api.OpTail:
		s.link(call{fn: f, i: i}, int(i.N))
	case api.OpCallAt, api.OpTailAt:
		s.calls[base+i.A] = append(s.calls[base+i.A], call{fn: f, i: i})
	case api.OpRet:
		if i.A >= 0 {
			s.lead(base+i.A, s.answers[f])
		}
	}
}

// link leads what a call hands on to its function, and back what that answers.
func (s *solver) link(c call, callee int) {
	for k, a := range c.i.Args {
		s.lead(s.regs[c.fn]+a, s.regs[callee]+k)
	}
	switch {
	case c.i.Op == api.OpTail || c.i.Op == api.OpTailAt:
		s.lead(s.answers[callee], s.answers[c.fn])
	case c.i.D >= 0:
		s.lead(s.answers[callee], s.regs[c.fn]+c.i.D)
	}
}

// visit leads on what a node has got since it was last visited.
func (s *solver) visit(n int) {
	if len(s.calls[n])+len(s.loads[n])+len(s.stores[n]) > 0 {
		for _, t := range s.sets[n].without(s.done[n]).list() {
			s.done[n].add(t)
			s.follow(n, s.things[t])
		}
	}
	for _, to := range s.leads[n] {
		if s.sets[to].join(s.sets[n]) {
			s.wake(to)
		}
	}
}

// follow does what a node's having a thing asks for.
func (s *solver) follow(n int, t Thing) {
	if t.Kind == Func {
		for _, c := range s.calls[n] {
			if s.prog.Fns[t.N].Params == len(c.i.Args) {
				s.link(c, t.N)
			}
		}
		return
	}
	at := s.memory[t]
	for _, d := range s.loads[n] {
		s.lead(at, d)
	}
	for _, b := range s.stores[n] {
		s.lead(b, at)
	}
}
