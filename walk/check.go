package walk

import (
	"spokeshave/api"
	"spokeshave/word"
)

// MostRegs is how many registers a function may have.
const MostRegs = 100000

// Form tells whether a function's parameters, registers, blocks and To are such as may be.
func Form(f *api.Fn) bool {
	if f.Params > api.MaxParams || f.Params > f.Regs || f.Regs > MostRegs || len(f.Blocks) == 0 {
		return false
	}
	for b := range f.Blocks {
		ins := f.Blocks[b].Ins
		if len(ins) == 0 {
			return false
		}
		for k := range ins {
			i := &ins[k]
			if i.Op < api.OpConst || i.Op >= api.Opcodes || Ends(i.Op) != (k == len(ins)-1) {
				return false
			}
			if !registers(f, i) || !leads(f, i) {
				return false
			}
		}
	}
	return true
}

// registers tells whether all registers of an instruction are there.
func registers(f *api.Fn, i *api.Ins) bool {
	has := func(r int) bool { return r >= 0 && r < f.Regs }
	if readsA(i) && !has(i.A) || readsB(i) && !has(i.B) || Writes(i) && !has(i.D) {
		return false
	}
	if Calls(i.Op) {
		for _, r := range i.Args {
			if !has(r) {
				return false
			}
		}
	}
	return true
}

// leads tells whether an instruction leads to as many blocks as it is to, and all are there.
func leads(f *api.Fn, i *api.Ins) bool {
	count := 0
	switch i.Op {
	case api.OpJump:
		count = 1
	case api.OpBranch:
		count = 2
	case api.OpSwitch:
		count = len(i.Cases) + 1
	default:
		return true
	}
	if len(i.To) != count {
		return false
	}
	for _, b := range i.To {
		if b < 0 || b >= len(f.Blocks) {
			return false
		}
	}
	return true
}

// May tells whether a program may be.
func May(p *api.Prog) bool {
	if p.Main < 0 || p.Main >= len(p.Fns) || p.Fns[p.Main].Params != 0 {
		return false
	}
	for i := range p.Globals {
		if !global(p, &p.Globals[i]) {
			return false
		}
	}
	for i := range p.Fns {
		if !function(p, &p.Fns[i]) {
			return false
		}
	}
	return true
}

func global(p *api.Prog, g *api.Global) bool {
	if g.Size < 1 || g.Size > api.MaxBytes {
		return false
	}
	for _, k := range g.Pieces {
		switch k.Bytes {
		case 1, 2, 4, 8:
		default:
			return false
		}
		if k.At < 0 || k.At > g.Size-k.Bytes || k.Func < 0 || k.Func > len(p.Fns) || k.Func > 0 && k.Bytes != 8 {
			return false
		}
	}
	return true
}

func function(p *api.Prog, f *api.Fn) bool {
	if !Form(f) {
		return false
	}
	for _, s := range f.Slots {
		if s < 1 || s > api.MaxBytes {
			return false
		}
	}
	for b := range f.Blocks {
		ins := f.Blocks[b].Ins
		for k := range ins {
			if !fits(p, f, &ins[k]) {
				return false
			}
		}
	}
	return true
}

// fits tells whether what an instruction names besides registers and blocks is there.
func fits(p *api.Prog, f *api.Fn, i *api.Ins) bool {
	below := func(n int) bool { return i.N >= 0 && i.N < int64(n) }
	switch i.Op {
	case api.OpBin:
		return i.Sub >= api.Add && i.Sub < api.Subs
	case api.OpExt, api.OpLoad, api.OpStore:
		return word.May(i.W)
	case api.OpSlot:
		return below(len(f.Slots))
	case api.OpGlobal:
		return below(len(p.Globals))
	case api.OpFunc:
		return below(len(p.Fns))
	case api.OpCall:
		return below(len(p.Fns)) && len(i.Args) == p.Fns[i.N].Params && (i.D == -1 || p.Fns[i.N].Value)
	case api.OpTail:
		return below(len(p.Fns)) && len(i.Args) == p.Fns[i.N].Params && (!f.Value || p.Fns[i.N].Value)
	case api.OpCallAt, api.OpTailAt:
		return len(i.Args) <= api.MaxParams
	case api.OpRet:
		return i.A == -1 || f.Value
	}
	return true
}
