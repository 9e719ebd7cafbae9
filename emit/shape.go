package emit

import (
	"spokeshave/api"
	"spokeshave/known"
	"spokeshave/span"
	"spokeshave/walk"
)

// how tells of an instruction whether its B is a number that the line itself may tell: then it stands as a move from A to D among those whose registers are reckoned, and sub is what is done.
type how struct {
	told bool
	sub  int
	n    int64
}

// turnable tells whether an operation is the same with A and B turned round.
func turnable(sub int) bool {
	switch sub {
	case api.Add, api.Mul, api.And, api.Or, api.Xor, api.Eq, api.Ne:
		return true
	}
	return false
}

// tellable tells whether a line may tell the number of an operation.
func tellable(sub int) bool {
	return sub != api.Div && sub != api.Mod && sub != api.UDiv && sub != api.UMod
}

// isCompare tells whether an operation answers 1 or 0.
func isCompare(sub int) bool { return sub >= api.Eq && sub <= api.ULe }

// shaped answers a function with what its lines tell, and without the instructions that nobody needs then.
func shaped(f api.Fn) (api.Fn, [][]how) {
	out := walk.CopyFn(f)
	hows := make([][]how, len(out.Blocks))
	for b := range out.Blocks {
		now := known.Numbers{}
		ins := out.Blocks[b].Ins
		for k := range ins {
			i := ins[k]
			h := how{}
			if i.Op == api.OpBin && tellable(i.Sub) {
				h = told(&ins[k], now)
			}
			hows[b] = append(hows[b], h)
			now.Step(&i)
		}
	}
	drop(&out, hows)
	return out, hows
}

// told lets an operation be one whose number is told, if that is known and has a place in a line.
func told(i *api.Ins, now known.Numbers) how {
	n, ok := now[i.B]
	a := i.A
	if (!ok || !fits(n)) && turnable(i.Sub) {
		n, ok = now[i.A]
		a = i.B
	}
	if !ok || !fits(n) {
		return how{}
	}
	h := how{told: true, sub: i.Sub, n: n}
	*i = walk.Move(i.D, a)
	return h
}

// drop takes away the instructions that nobody needs.
func drop(f *api.Fn, hows [][]how) {
	span.Needed(f).Walk(func(b int, k int, now span.Set) {
		if i := &f.Blocks[b].Ins[k]; walk.Pure(i) && !now.Has(i.D) {
			*i = api.Ins{}
		}
	})
	for b := range f.Blocks {
		var ins []api.Ins
		var kept []how
		for k, i := range f.Blocks[b].Ins {
			if i.Op != 0 {
				ins = append(ins, i)
				kept = append(kept, hows[b][k])
			}
		}
		f.Blocks[b].Ins, hows[b] = ins, kept
	}
}

// joined tells whether a block ends in a branch by a compare right ahead of it, that nothing else asks for.
func joined(f *api.Fn, hows [][]how, l *span.Live, b int) bool {
	ins := f.Blocks[b].Ins
	n := len(ins)
	if n < 2 || ins[n-1].Op != api.OpBranch {
		return false
	}
	c, h := &ins[n-2], hows[b][n-2]
	compares := h.told && isCompare(h.sub) || c.Op == api.OpBin && isCompare(c.Sub)
	return compares && c.D == ins[n-1].A && !l.Out[b].Has(c.D)
}
