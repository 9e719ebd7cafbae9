package emit

import (
	"spokeshave/alloc"
	"spokeshave/api"
	"spokeshave/span"
	"spokeshave/walk"
)

// machine is how many registers have places; the first six of them hand on what is handed. %rax, %rcx, %rdx, %rdi are for what lies between, %r15 is where the stack ends.
const (
	machine = 10
	spare   = 1 << 30 // the place that %rax is, where moves are ordered
	// ahead is how much more of the stack a function asks for than it takes, so that a call's address has its place.
	ahead = 16
	// mostZeros is how many registers that are read ahead of being written begin as 0. A program that was lowered reads none such in a run that is defined.
	mostZeros = 16
)

// spot is where an instruction stands.
type spot struct{ block, ins int }

// plan is where a function keeps its registers and slots. frame: the bytes that it takes below the address that is pushed; saves: where each register of the machine is kept over calls (-1: nowhere); kept: those that are, by call; joined: the blocks whose last branch is by a compare; calls: whether there are calls at all.
type plan struct {
	fn     api.Fn
	hows   [][]how
	joined []bool
	calls  bool
	places []int
	slots  []int
	frame  int
	saves  [machine]int
	kept   map[spot][]int
	begins []int
}

// sound answers f as one whose registers are reckoned.
func sound(f api.Fn) api.Fn {
	f.Params = max(f.Params, 0)
	f.Regs = max(f.Regs, 0)
	return f
}

// planned plans a function that walk.Form lets.
func planned(f api.Fn) *plan {
	p := &plan{kept: map[spot][]int{}}
	p.fn, p.hows = shaped(sound(f))
	p.places = alloc.Places(p.fn, machine)
	l := span.Of(&p.fn)
	for b := range p.fn.Blocks {
		p.joined = append(p.joined, joined(&p.fn, p.hows, l, b))
	}
	p.begins = l.In[0].List()
	p.keep(l)
	at := 0
	for _, r := range p.places {
		if r >= machine {
			at = max(at, 8*(r-machine+1))
		}
	}
	for m := range p.saves {
		if p.saves[m] == 0 {
			p.saves[m] = at
			at += 8
		}
	}
	for _, s := range p.fn.Slots {
		p.slots = append(p.slots, at)
		at += (s + 7) / 8 * 8
	}
	p.frame = (at+15)/16*16 + 8
	if at%16 == 8 {
		p.frame = at
	}
	return p
}

// keep notes the registers of the machine that are read behind each call.
func (p *plan) keep(l *span.Live) {
	for m := range p.saves {
		p.saves[m] = -1
	}
	l.Walk(func(b int, k int, now span.Set) {
		i := &p.fn.Blocks[b].Ins[k]
		if i.Op != api.OpCall && i.Op != api.OpCallAt {
			return
		}
		p.calls = true
		now.Each(func(r int) {
			if m := p.places[r]; r != walk.Def(i) && m < machine {
				p.kept[spot{b, k}] = append(p.kept[spot{b, k}], m)
				p.saves[m] = 0
			}
		})
	})
}

// Frame answers how many bytes of stack a call of f takes.
func Frame(f api.Fn) int {
	if g := sound(f); !walk.Form(&g) {
		return 0
	}
	return planned(f).frame + 8
}
