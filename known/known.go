// Package known goes down a block with what each register is known to be, for fold and for the layers that ask what is known ahead of an instruction.
package known

import (
	"slices"

	"spokeshave/api"
	"spokeshave/walk"
	"spokeshave/word"
)

// Numbers are the registers whose number is known.
type Numbers map[int]int64

// Step goes over an instruction. It answers what the instruction becomes, and whether that is another one.
func (n Numbers) Step(i *api.Ins) (api.Ins, bool) {
	v, ok := n.made(i)
	switch {
	case ok:
		n[i.D] = v
		if i.Op == api.OpConst {
			return *i, false
		}
		return walk.Const(i.D, v), true
	case i.Op == api.OpBranch || i.Op == api.OpSwitch:
		to, ok := n.leads(i)
		if ok {
			return walk.Jump(to), true
		}
	case walk.Writes(i):
		delete(n, i.D)
	}
	return *i, false
}

// made answers the number that an instruction makes of what is known.
func (n Numbers) made(i *api.Ins) (int64, bool) {
	a, ok := n[i.A]
	switch i.Op {
	case api.OpConst:
		return i.N, true
	case api.OpMove:
		return a, ok
	case api.OpExt:
		return word.Wrap(i.W, a), ok && word.May(i.W)
	case api.OpBin:
		b, is := n[i.B]
		if !ok || !is {
			return 0, false
		}
		return word.Plain(i.Sub, a, b)
	}
	return 0, false
}

// leads answers where an instruction of which A is known leads.
func (n Numbers) leads(i *api.Ins) (int, bool) {
	a, ok := n[i.A]
	if !ok {
		return 0, false
	}
	k := 0
	if i.Op == api.OpSwitch {
		k = slices.Index(i.Cases, a)
		if k < 0 {
			k = len(i.Cases)
		}
	} else if a == 0 {
		k = 1
	}
	if k >= len(i.To) {
		return 0, false
	}
	return i.To[k], true
}
