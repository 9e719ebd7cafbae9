// Package walk holds what the layers of the middle language ask of single instructions.
package walk

import "spokeshave/api"

// Ends tells whether an operation is one that ends a block.
func Ends(op int) bool { return op >= api.OpJump && op <= api.OpTrap }

// Writes tells whether an instruction writes its D, whatever that is: of calls -1 alone is nothing.
func Writes(i *api.Ins) bool {
	switch i.Op {
	case api.OpConst, api.OpMove, api.OpBin, api.OpExt, api.OpLoad, api.OpSlot, api.OpGlobal, api.OpFunc, api.OpIn:
		return true
	case api.OpCall, api.OpCallAt:
		return i.D != -1
	}
	return false
}

// Def answers the register that an instruction of a function that may be writes; -1, if none.
func Def(i *api.Ins) int {
	if Writes(i) {
		return i.D
	}
	return -1
}

// readsA tells whether an instruction reads A, whatever that is: of OpRet -1 alone is nothing.
func readsA(i *api.Ins) bool {
	switch i.Op {
	case api.OpMove, api.OpBin, api.OpExt, api.OpLoad, api.OpStore, api.OpCallAt, api.OpOut, api.OpBranch, api.OpSwitch, api.OpExit, api.OpTailAt:
		return true
	case api.OpRet:
		return i.A != -1
	}
	return false
}

func readsB(i *api.Ins) bool { return i.Op == api.OpBin || i.Op == api.OpStore }

// Calls tells whether an instruction hands on Args.
func Calls(op int) bool {
	return op == api.OpCall || op == api.OpCallAt || op == api.OpTail || op == api.OpTailAt
}

// Uses adds the registers that an instruction reads to a list: A, B, Args.
func Uses(i *api.Ins, out []int) []int {
	if readsA(i) {
		out = append(out, i.A)
	}
	if readsB(i) {
		out = append(out, i.B)
	}
	if Calls(i.Op) {
		out = append(out, i.Args...)
	}
	return out
}

// Reread gives each register that an instruction reads its new number. Its Args are changed in place.
func Reread(i *api.Ins, to func(int) int) {
	if readsA(i) {
		i.A = to(i.A)
	}
	if readsB(i) {
		i.B = to(i.B)
	}
	if Calls(i.Op) {
		for k := range i.Args {
			i.Args[k] = to(i.Args[k])
		}
	}
}

// Rename gives each register that an instruction names its new number. Its Args are changed in place.
func Rename(i *api.Ins, to func(int) int) {
	Reread(i, to)
	if Writes(i) {
		i.D = to(i.D)
	}
}

// Pure tells whether an instruction does nothing but write its D.
func Pure(i *api.Ins) bool {
	switch i.Op {
	case api.OpConst, api.OpMove, api.OpExt, api.OpSlot, api.OpGlobal, api.OpFunc:
		return true
	case api.OpBin:
		return i.Sub != api.Div && i.Sub != api.Mod && i.Sub != api.UDiv && i.Sub != api.UMod
	}
	return false
}

// To answers where an instruction leads; none, unless it ends a block.
func To(i *api.Ins) []int {
	switch i.Op {
	case api.OpJump, api.OpBranch, api.OpSwitch:
		return i.To
	}
	return nil
}

// Copy answers an instruction that shares nothing with i.
func Copy(i api.Ins) api.Ins {
	i.Args = append([]int(nil), i.Args...)
	i.To = append([]int(nil), i.To...)
	i.Cases = append([]int64(nil), i.Cases...)
	return i
}

// CopyFn answers a function that shares nothing with f.
func CopyFn(f api.Fn) api.Fn {
	f.Slots = append([]int(nil), f.Slots...)
	blocks := make([]api.Block, 0, len(f.Blocks))
	for _, b := range f.Blocks {
		blocks = append(blocks, CopyBlock(b))
	}
	f.Blocks = blocks
	return f
}

// CopyBlock answers a block that shares nothing with b.
func CopyBlock(b api.Block) api.Block {
	ins := make([]api.Ins, 0, len(b.Ins))
	for _, i := range b.Ins {
		ins = append(ins, Copy(i))
	}
	return api.Block{Ins: ins}
}

// CopyProg answers a program that shares nothing with p.
func CopyProg(p api.Prog) api.Prog {
	out := api.Prog{Main: p.Main}
	for _, g := range p.Globals {
		g.Pieces = append([]api.Piece(nil), g.Pieces...)
		out.Globals = append(out.Globals, g)
	}
	for _, f := range p.Fns {
		out.Fns = append(out.Fns, CopyFn(f))
	}
	return out
}

// Each goes over all instructions of a function.
func Each(f *api.Fn, do func(i *api.Ins)) {
	for b := range f.Blocks {
		for k := range f.Blocks[b].Ins {
			do(&f.Blocks[b].Ins[k])
		}
	}
}

// EachOf goes over all instructions of a program.
func EachOf(p *api.Prog, do func(i *api.Ins)) {
	for f := range p.Fns {
		Each(&p.Fns[f], do)
	}
}

// Size answers how many instructions a function has.
func Size(f *api.Fn) int {
	n := 0
	for i := range f.Blocks {
		n += len(f.Blocks[i].Ins)
	}
	return n
}

// Jump answers an instruction that leads to a block.
func Jump(to int) api.Ins { return api.Ins{Op: api.OpJump, To: []int{to}} }

// Const answers an instruction that brings a number to a register.
func Const(d int, n int64) api.Ins { return api.Ins{Op: api.OpConst, D: d, N: n} }

// Move answers an instruction that brings a register's number to another one.
func Move(d int, a int) api.Ins { return api.Ins{Op: api.OpMove, D: d, A: a} }
