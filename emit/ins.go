package emit

import (
	"cmp"
	"math"
	"slices"

	"spokeshave/api"
)

func fits(n int64) bool { return n >= math.MinInt32 && n <= math.MaxInt32 }

// instruction writes what does an instruction.
func (w *writer) instruction(i *api.Ins, at spot) {
	switch i.Op {
	case api.OpConst:
		w.constant(i)
	case api.OpMove:
		if w.spilled(i.A) && w.spilled(i.D) {
			w.ins("movq", w.at(i.A), "%rax")
			w.done(i.D)
		} else {
			w.moved(w.at(i.A), w.at(i.D))
		}
	case api.OpBin:
		w.binary(i)
	case api.OpExt:
		from := w.at(i.A)
		if !w.spilled(i.A) {
			from = part(from, i.W.Bits)
		}
		w.extended(i.W, from, w.target(i.D))
		w.done(i.D)
	case api.OpLoad:
		from := w.into(i.A, "%rax")
		w.extended(i.W, "("+from+")", w.target(i.D))
		w.done(i.D)
	case api.OpStore:
		to := w.into(i.A, "%rax")
		w.ins(store(i.W.Bits), part(w.into(i.B, "%rcx"), i.W.Bits), "("+to+")")
	case api.OpSlot:
		w.ins("leaq", w.slot(int(i.N)), w.target(i.D))
		w.done(i.D)
	case api.OpGlobal:
		w.ins("leaq", globalName(i.N)+"(%rip)", w.target(i.D))
		w.done(i.D)
	case api.OpFunc:
		w.ins("leaq", functionName(i.N)+"(%rip)", w.target(i.D))
		w.done(i.D)
	case api.OpIn:
		w.ins("sysin")
		w.ins("movq", "%rax", w.at(i.D))
	case api.OpOut:
		w.ins("movq", w.at(i.A), "%rdi")
		w.ins("sysout")
	case api.OpCall, api.OpCallAt:
		w.call(i, at)
	default:
		w.end(i, at)
	}
}

func (w *writer) slot(n int) string {
	if at := w.plan.slots[n]; at > 0 {
		return decimal(int64(at)) + "(%rsp)"
	}
	return "(%rsp)"
}

func store(bits int) string {
	switch bits {
	case 8:
		return "movb"
	case 16:
		return "movw"
	case 32:
		return "movl"
	}
	return "movq"
}

func (w *writer) constant(i *api.Ins) {
	if fits(i.N) {
		w.ins("movq", number(i.N), w.at(i.D))
		return
	}
	w.ins("movabsq", number(i.N), w.target(i.D))
	w.done(i.D)
}

// word answers the word that does an operation in a register; empty, if none does.
func word(sub int) string {
	switch sub {
	case api.Add:
		return "addq"
	case api.Sub:
		return "subq"
	case api.Mul:
		return "imulq"
	case api.And:
		return "andq"
	case api.Or:
		return "orq"
	case api.Xor:
		return "xorq"
	case api.Shl:
		return "shlq"
	case api.Shr:
		return "shrq"
	case api.Sar:
		return "sarq"
	}
	return ""
}

// compare answers how a compare is told, and how its contrary is.
func compare(sub int) (string, string) {
	switch sub {
	case api.Eq:
		return "e", "ne"
	case api.Ne:
		return "ne", "e"
	case api.Lt:
		return "l", "ge"
	case api.Le:
		return "le", "g"
	case api.ULt:
		return "b", "ae"
	}
	return "be", "a"
}

// truth brings to a register whether a compare holds.
func (w *writer) truth(sub int, d int) {
	cc, _ := compare(sub)
	w.ins("set"+cc, "%al")
	w.ins("movzbq", "%al", w.target(d))
	w.done(d)
}

// told writes what does an operation whose number is told.
func (w *writer) told(i *api.Ins, h how) {
	to := w.target(i.D)
	switch {
	case isCompare(h.sub):
		w.ins("cmpq", number(h.n), w.into(i.A, "%rax"))
		w.truth(h.sub, i.D)
		return
	case (h.sub == api.Add || h.sub == api.Sub) && !w.spilled(i.A) && w.at(i.A) != to:
		w.sum(i, h, to)
	case h.sub == api.Shl || h.sub == api.Shr || h.sub == api.Sar:
		w.moved(w.at(i.A), to)
		w.ins(word(h.sub), number(h.n&63), to)
	default:
		w.moved(w.at(i.A), to)
		w.ins(word(h.sub), number(h.n), to)
	}
	w.done(i.D)
}

// sum brings a register's number, and one that is told, to another register.
func (w *writer) sum(i *api.Ins, h how, to string) {
	n := h.n
	if h.sub == api.Sub {
		n = -n
	}
	switch {
	case n == 0:
		w.ins("movq", w.at(i.A), to)
	case !fits(n):
		w.ins("movq", w.at(i.A), to)
		w.ins(word(h.sub), number(h.n), to)
	default:
		w.ins("leaq", decimal(n)+"("+w.at(i.A)+")", to)
	}
}

// compares leads where a branch by a compare leads.
func (w *writer) compares(c *api.Ins, h how, branch *api.Ins, b int) {
	a := w.into(c.A, "%rax")
	sub := c.Sub
	if h.told {
		sub = h.sub
		w.ins("cmpq", number(h.n), a)
	} else {
		w.ins("cmpq", w.at(c.B), a)
	}
	yes, no := compare(sub)
	w.fork(yes, no, branch, b)
}

// fork leads to the first block of a branch, if yes holds, else to the other one.
func (w *writer) fork(yes string, no string, branch *api.Ins, b int) {
	if branch.To[0] == b+1 {
		w.ins("j"+no, w.block(branch.To[1]))
		return
	}
	w.ins("j"+yes, w.block(branch.To[0]))
	w.jump(branch.To[1], b)
}

func (w *writer) binary(i *api.Ins) {
	switch i.Sub {
	case api.Div, api.Mod, api.UDiv, api.UMod:
		w.divide(i)
	case api.Shl, api.Shr, api.Sar:
		to := w.target(i.D)
		w.ins("movq", w.at(i.B), "%rcx")
		w.moved(w.at(i.A), to)
		w.ins(word(i.Sub), "%cl", to)
		w.done(i.D)
	case api.Eq, api.Ne, api.Lt, api.Le, api.ULt, api.ULe:
		a := w.into(i.A, "%rax")
		w.ins("cmpq", w.at(i.B), a)
		w.truth(i.Sub, i.D)
	default:
		to := w.target(i.D)
		if to == w.at(i.B) && to != w.at(i.A) {
			to = "%rax"
		}
		w.moved(w.at(i.A), to)
		w.ins(word(i.Sub), w.at(i.B), to)
		w.moved(to, w.at(i.D))
	}
}

func (w *writer) divide(i *api.Ins) {
	by := w.into(i.B, "%rcx")
	w.ins("movq", w.at(i.A), "%rax")
	if i.Sub == api.Div || i.Sub == api.Mod {
		w.ins("cqto")
		w.ins("idivq", by)
	} else {
		w.ins("movq", "$0", "%rdx")
		w.ins("divq", by)
	}
	from := "%rax"
	if i.Sub == api.Mod || i.Sub == api.UMod {
		from = "%rdx"
	}
	w.ins("movq", from, w.at(i.D))
}

// handed brings what is handed on to the registers that hand it on.
func (w *writer) handed(i *api.Ins) {
	var list []move
	for k, a := range i.Args {
		list = append(list, move{To: k, From: w.plan.places[a]})
	}
	w.moves(list)
}

func (w *writer) call(i *api.Ins, at spot) {
	kept := w.plan.kept[at]
	for _, m := range kept {
		w.ins("movq", w.place(m), w.saved(m))
	}
	to := functionName(i.N)
	if i.Op == api.OpCallAt {
		w.ins("movq", w.at(i.A), "%rcx")
		to = "*%rcx"
	}
	w.handed(i)
	w.ins("call", to)
	for _, m := range kept {
		w.ins("movq", w.saved(m), w.place(m))
	}
	if i.D >= 0 {
		w.ins("movq", "%rax", w.at(i.D))
	}
}

// saved answers where a register of the machine is kept over calls.
func (w *writer) saved(m int) string {
	if at := w.plan.saves[m]; at > 0 {
		return decimal(int64(at)) + "(%rsp)"
	}
	return "(%rsp)"
}

// end writes what does an instruction that ends a block.
func (w *writer) end(i *api.Ins, at spot) {
	switch i.Op {
	case api.OpJump:
		w.jump(i.To[0], at.block)
	case api.OpBranch:
		a := w.into(i.A, "%rax")
		w.ins("testq", a, a)
		w.fork("ne", "e", i, at.block)
	case api.OpSwitch:
		w.choice(i)
	case api.OpRet:
		from := "$0"
		if i.A >= 0 {
			from = w.at(i.A)
		}
		w.ins("movq", from, "%rax")
		w.leave()
		w.ins("ret")
	case api.OpExit:
		w.ins("movq", w.at(i.A), "%rdi")
		w.ins("sysexit")
	case api.OpTrap:
		w.ins("sysexit")
	default:
		to := functionName(i.N)
		if i.Op == api.OpTailAt {
			w.ins("movq", w.at(i.A), "%rcx")
			to = "*%rcx"
		}
		w.handed(i)
		w.leave()
		w.ins("jmp", to)
	}
}

// jump leads to a block, unless that comes next.
func (w *writer) jump(to int, b int) {
	if to != b+1 {
		w.ins("jmp", w.block(to))
	}
}

// choice is a case of a switch, and where it leads.
type choice struct {
	n  int64
	to int
}

// choice leads to the block of the case that a register has. The cases are halved, so that few steps are enough for many.
func (w *writer) choice(i *api.Ins) {
	var list []choice
	seen := map[int64]int{}
	for k, n := range i.Cases {
		if seen[n] == 0 {
			seen[n] = 1
			list = append(list, choice{n, i.To[k]})
		}
	}
	slices.SortFunc(list, func(a, b choice) int { return cmp.Compare(a.n, b.n) })
	w.halve(list, w.into(i.A, "%rax"), i.To[len(i.Cases)])
}

func (w *writer) halve(list []choice, a string, other int) {
	if len(list) <= 2 {
		for _, c := range list {
			w.against(c.n, a)
			w.ins("je", w.block(c.to))
		}
		w.ins("jmp", w.block(other))
		return
	}
	half := len(list) / 2
	w.more++
	less := w.name + ".s" + decimal(int64(w.more))
	w.against(list[half].n, a)
	w.ins("jl", less)
	w.halve(list[half:], a, other)
	w.label(less)
	w.halve(list[:half], a, other)
}

// against compares a register with a number.
func (w *writer) against(n int64, a string) {
	if fits(n) {
		w.ins("cmpq", number(n), a)
		return
	}
	w.ins("movabsq", number(n), "%rcx")
	w.ins("cmpq", "%rcx", a)
}
