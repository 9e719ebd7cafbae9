package drive

import (
	"spokeshave/api"
	"spokeshave/emit"
	"spokeshave/graph"
)

// ahead is how much more of the stack a function asks for than it takes.
const ahead = 16

// bounder reckons how much of the stack calls need. targets: which functions that are taken take so many; part: the set of functions that call one another, of each; needs: what a set needs.
type bounder struct {
	p       *api.Prog
	targets [api.MaxParams + 1][]int
	part    []int
	needs   []int
}

// Bound answers how many bytes of stack are enough; -1, if no such number is told.
func Bound(s string, f api.Flags) int {
	p, wrong := Middle(s, f)
	if wrong.Code != api.OK {
		return 0
	}
	b := bounder{p: &p, part: make([]int, len(p.Fns))}
	for _, t := range graph.Taken(p) {
		n := p.Fns[t].Params
		b.targets[n] = append(b.targets[n], t)
	}
	parts := graph.Parts(p)
	for k, part := range parts {
		for _, v := range part {
			b.part[v] = k
		}
	}
	// A part stands behind all that its functions call.
	for k, part := range parts {
		b.needs = append(b.needs, 0)
		for _, v := range part {
			n := b.need(v)
			if n < 0 {
				return -1
			}
			b.needs[k] = max(b.needs[k], n)
		}
	}
	n := max(b.needs[b.part[p.Main]]+ahead, api.MinStack)
	if n > api.MaxStack {
		return -1
	}
	return n
}

// need answers what a call of v needs, where the tail calls of its part are left aside; -1, if one of its calls may come back to it.
func (b *bounder) need(v int) int {
	below, instead := 0, 0
	back := false
	take := func(w int, tail bool) {
		switch {
		case b.part[w] == b.part[v]:
			back = back || !tail
		case tail:
			instead = max(instead, b.needs[b.part[w]])
		default:
			below = max(below, b.needs[b.part[w]])
		}
	}
	for _, block := range b.p.Fns[v].Blocks {
		for k := range block.Ins {
			i := &block.Ins[k]
			switch i.Op {
			case api.OpCall, api.OpTail:
				take(int(i.N), i.Op == api.OpTail)
			case api.OpCallAt, api.OpTailAt:
				for _, w := range b.targets[len(i.Args)] {
					take(w, i.Op == api.OpTailAt)
				}
			}
		}
	}
	if back {
		return -1
	}
	return max(emit.Frame(b.p.Fns[v])+below, instead)
}
