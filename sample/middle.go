package sample

import "spokeshave/api"

// Middle answers a program of the middle language that grows from a seed. It touches no memory, and no register of it but parameters is read ahead of being written.
func Middle(seed int) api.Prog {
	g := &grower{seed: uint64(seed)*2862933555777941757 + 77}
	count := 1 + g.pick(4)
	p := api.Prog{Main: g.pick(count)}
	for f := range count {
		fn := api.Fn{Name: "m", Params: g.pick(api.MaxParams + 1), Value: g.pick(4) > 0}
		if f == p.Main {
			fn.Params, fn.Value = 0, true
		}
		if g.pick(5) == 0 {
			fn.Slots = []int{1 + g.pick(99), 8}
		}
		fn.Regs = fn.Params + 1 + g.pick(20)
		if g.pick(4) == 0 {
			fn.Regs += 40
		}
		p.Fns = append(p.Fns, fn)
	}
	for f := range p.Fns {
		g.blocks(&p, &p.Fns[f])
	}
	return p
}

// blocks makes a function's blocks; the first one writes all registers but parameters.
func (g *grower) blocks(p *api.Prog, f *api.Fn) {
	n := 1 + g.pick(6)
	for b := range n {
		var ins []api.Ins
		if b == 0 {
			for r := f.Params; r < f.Regs; r++ {
				ins = append(ins, api.Ins{Op: api.OpConst, D: r, N: g.value()})
			}
		}
		long := g.pick(7)
		if f.Regs > 40 {
			long *= 6
		}
		for range long {
			ins = append(ins, g.middle(p, f))
		}
		ins = append(ins, g.end(p, f, n)...)
		f.Blocks = append(f.Blocks, api.Block{Ins: ins})
	}
}

// value answers a number, often one at an edge.
func (g *grower) value() int64 {
	edges := [...]int64{0, 1, 2, 3, 7, 63, 64, 255, 1 << 31, 1<<31 - 1, 1<<63 - 1, -1, -2, -1 << 31, -1 << 63, 1 << 40, 12345678901}
	return edges[g.pick(len(edges))]
}

func (g *grower) args(f *api.Fn, n int) []int {
	var out []int
	for range n {
		out = append(out, g.pick(f.Regs))
	}
	return out
}

func (g *grower) width() api.Width {
	return api.Width{Bits: 8 << g.pick(4), Signed: g.pick(2) == 0}
}

func (g *grower) middle(p *api.Prog, f *api.Fn) api.Ins {
	d, a, b := g.pick(f.Regs), g.pick(f.Regs), g.pick(f.Regs)
	switch g.pick(12) {
	case 0, 1:
		return api.Ins{Op: api.OpConst, D: d, N: g.value()}
	case 2:
		return api.Ins{Op: api.OpMove, D: d, A: a}
	case 3, 4:
		return api.Ins{Op: api.OpExt, D: d, A: a, W: g.width()}
	case 5:
		return api.Ins{Op: api.OpIn, D: d}
	case 6:
		return api.Ins{Op: api.OpOut, A: a}
	case 7, 8:
		n := g.pick(len(p.Fns))
		if n == p.Main && g.pick(4) > 0 {
			n = (n + 1) % len(p.Fns)
		}
		if !p.Fns[n].Value || g.pick(4) == 0 {
			d = -1
		}
		return api.Ins{Op: api.OpCall, D: d, N: int64(n), Args: g.args(f, p.Fns[n].Params)}
	}
	sub := 1 + g.pick(api.Subs-1)
	if (sub == api.Div || sub == api.Mod) && g.pick(2) == 0 {
		sub = api.Sub
	}
	return api.Ins{Op: api.OpBin, Sub: sub, D: d, A: a, B: b}
}

// end makes what ends a block: now and then a call at the end.
func (g *grower) end(p *api.Prog, f *api.Fn, n int) []api.Ins {
	a := g.pick(f.Regs)
	back := api.Ins{Op: api.OpRet, A: -1}
	if f.Value {
		back.A = a
	}
	switch g.pick(10) {
	case 0:
		return []api.Ins{{Op: api.OpJump, To: []int{g.pick(n)}}}
	case 1, 2, 3:
		return []api.Ins{{Op: api.OpBranch, A: a, To: []int{g.pick(n), g.pick(n)}}}
	case 4:
		return []api.Ins{{Op: api.OpSwitch, A: a, Cases: []int64{g.value(), 1, g.value()}, To: []int{g.pick(n), g.pick(n), g.pick(n), g.pick(n)}}}
	case 5:
		return []api.Ins{{Op: [...]int{api.OpExit, api.OpExit, api.OpTrap}[g.pick(3)], A: a}}
	case 6, 7:
		k := g.pick(len(p.Fns))
		if f.Value && !p.Fns[k].Value {
			return []api.Ins{back}
		}
		args := g.args(f, p.Fns[k].Params)
		if g.pick(2) == 0 {
			return []api.Ins{{Op: api.OpTail, N: int64(k), Args: args}}
		}
		call := api.Ins{Op: api.OpCall, D: back.A, N: int64(k), Args: args}
		return []api.Ins{call, back}
	}
	return []api.Ins{back}
}
