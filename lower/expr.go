package lower

import (
	"spokeshave/api"
	"spokeshave/check"
	"spokeshave/tree"
)

// width answers how a value of a type is kept.
func width(t *check.Type) api.Width {
	if t.Kind == check.Int {
		return t.Width
	}
	return api.Width{Bits: 64}
}

func pointer(t *check.Type) bool { return t.Kind != check.Int }

func (l *lowering) number(n int64) int {
	r := l.fresh(false)
	l.emit(api.Ins{Op: api.OpConst, D: r, N: n})
	return r
}

func (l *lowering) bin(sub int, a int, b int, far bool) int {
	r := l.fresh(far)
	l.emit(api.Ins{Op: api.OpBin, Sub: sub, D: r, A: a, B: b})
	return r
}

func (l *lowering) slot(n int) int {
	r := l.fresh(true)
	l.emit(api.Ins{Op: api.OpSlot, D: r, N: int64(n)})
	return r
}

// sets tells whether an assignment is done in a node.
func sets(n *check.Node) bool {
	if n.Kind == tree.Set {
		return true
	}
	for _, s := range n.Subs {
		if sets(s) {
			return true
		}
	}
	return false
}

// pin keeps a variable's number, if what is done later may change the variable.
func (l *lowering) pin(r int, t *check.Type, later ...*check.Node) int {
	if r < 0 || r >= l.vars {
		return r
	}
	for _, n := range later {
		if sets(n) {
			d := l.fresh(pointer(t))
			l.emit(api.Ins{Op: api.OpMove, D: d, A: r})
			return d
		}
	}
	return r
}

// holds tells whether each number of from is one of to, told alike.
func holds(to api.Width, from api.Width) bool {
	if to.Bits == 64 {
		return true
	}
	if to.Signed == from.Signed {
		return from.Bits <= to.Bits
	}
	return to.Signed && from.Bits < to.Bits
}

// turn brings a register's number from a type to another one.
func (l *lowering) turn(r int, from *check.Type, to *check.Type) int {
	if from.Kind != check.Int || to.Kind != check.Int || holds(to.Width, from.Width) {
		return r
	}
	return l.extend(r, to.Width)
}

func (l *lowering) extend(r int, w api.Width) int {
	d := l.fresh(false)
	l.emit(api.Ins{Op: api.OpExt, D: d, A: r, W: w})
	return d
}

// as answers a register that has a node's value, turned to a type.
func (l *lowering) as(n *check.Node, t *check.Type) int {
	return l.turn(l.value(n), l.prog.Value(n), t)
}

// place is where a value is kept: a variable's register, or an address.
type place struct {
	reg, at int
}

func (l *lowering) variable(s *check.Symbol) place {
	if s.Global {
		r := l.fresh(true)
		l.emit(api.Ins{Op: api.OpGlobal, D: r, N: int64(s.Index)})
		return place{reg: -1, at: r}
	}
	h := l.homes[s.Index]
	if h.slot {
		return place{reg: -1, at: l.slot(h.n)}
	}
	return place{reg: h.n, at: -1}
}

// offset answers an address so many bytes on.
func (l *lowering) offset(at int, by int) int {
	if by == 0 {
		return at
	}
	return l.bin(api.Add, at, l.number(int64(by)), true)
}

// scaled answers a register's number, times a size.
func (l *lowering) scaled(r int, size int) int {
	if size == 1 {
		return r
	}
	return l.bin(api.Mul, r, l.number(int64(size)), false)
}

func (l *lowering) place(n *check.Node) place {
	switch n.Kind {
	case tree.Name:
		return l.variable(n.Sym)
	case tree.Un:
		return place{reg: -1, at: l.value(n.Subs[0])}
	case tree.Dot:
		p := l.place(n.Subs[0])
		return place{reg: -1, at: l.offset(p.at, n.At)}
	case tree.Arrow:
		return place{reg: -1, at: l.offset(l.value(n.Subs[0]), n.At)}
	}
	base := l.pin(l.value(n.Subs[0]), l.prog.Value(n.Subs[0]), n.Subs[1])
	by := l.scaled(l.value(n.Subs[1]), n.Type.Size())
	return place{reg: -1, at: l.bin(api.Add, base, by, true)}
}

// load answers a register that has what stands at a place; of an array its address.
func (l *lowering) load(p place, t *check.Type) int {
	switch {
	case p.reg >= 0:
		return p.reg
	case !t.Scalar():
		return p.at
	}
	r := l.fresh(pointer(t))
	l.emit(api.Ins{Op: api.OpLoad, D: r, A: p.at, W: width(t)})
	return r
}

func (l *lowering) store(p place, t *check.Type, r int) {
	if p.reg >= 0 {
		l.emit(api.Ins{Op: api.OpMove, D: p.reg, A: r})
		return
	}
	l.emit(api.Ins{Op: api.OpStore, A: p.at, B: r, W: width(t)})
}

// value answers a register that has a node's value.
func (l *lowering) value(n *check.Node) int {
	switch n.Kind {
	case tree.Num, tree.Size:
		return l.number(n.N)
	case tree.Name:
		if n.Sym.Kind == check.Function {
			r := l.fresh(true)
			l.emit(api.Ins{Op: api.OpFunc, D: r, N: int64(n.Sym.Index)})
			return r
		}
	case tree.Un:
		if n.Op != "*" || n.Type.Kind == check.Func {
			return l.unary(n)
		}
	case tree.Bin:
		a := l.pin(l.value(n.Subs[0]), l.prog.Value(n.Subs[0]), n.Subs[1])
		return l.binary(n.Op, n, a, l.value(n.Subs[1]))
	case tree.And, tree.Or:
		return l.truth(n)
	case tree.Cond:
		return l.cond(n)
	case tree.Set:
		return l.set(n)
	case tree.Call:
		return l.call(n, n.Type.Kind != check.Void)
	case tree.Cast:
		return l.as(n.Subs[0], n.Type)
	}
	return l.load(l.place(n), n.Type)
}

// discard lowers a node whose value nobody asks for.
func (l *lowering) discard(n *check.Node) {
	l.used = 0
	if n.Kind == tree.Call {
		l.call(n, false)
		return
	}
	l.value(n)
}

func (l *lowering) unary(n *check.Node) int {
	sub := n.Subs[0]
	switch {
	case n.Op == "&" && (sub.Kind != tree.Name || sub.Sym.Kind == check.Variable):
		return l.place(sub).at
	case n.Op == "&" || n.Op == "*":
		return l.value(sub)
	case n.Op == "!":
		return l.bin(api.Eq, l.value(sub), l.number(0), false)
	}
	a := l.as(sub, n.Type)
	r := -1
	if n.Op == "-" {
		r = l.bin(api.Sub, l.number(0), a, false)
	} else {
		r = l.bin(api.Xor, a, l.number(-1), false)
	}
	return l.trim(r, n.Type.Width)
}

// trim brings what was reckoned in 64 bits back to an unsigned width; of a signed one a number that is none of it is undefined.
func (l *lowering) trim(r int, w api.Width) int {
	if w.Signed || w.Bits == 64 {
		return r
	}
	return l.extend(r, w)
}

// binary does an operation of two registers, that have the values of a node's parts.
func (l *lowering) binary(op string, n *check.Node, a int, b int) int {
	if n.Work.Kind != check.Int {
		return l.far(op, n, a, b)
	}
	w := n.Work.Width
	a = l.turn(a, l.prog.Value(n.Subs[0]), n.Work)
	sub, swap := check.Sub(op)
	if sub != api.Shl && sub != api.Shr {
		b = l.turn(b, l.prog.Value(n.Subs[1]), n.Work)
	}
	if swap {
		a, b = b, a
	}
	r := l.bin(plain(sub, w), a, b, false)
	switch sub {
	case api.Add, api.Sub, api.Mul, api.Shl:
		return l.trim(r, w)
	}
	return r
}

// plain answers the operation of 64 bits that does one of a width.
func plain(sub int, w api.Width) int {
	if w.Signed {
		if sub == api.Shr {
			return api.Sar
		}
		return sub
	}
	switch sub {
	case api.Div:
		return api.UDiv
	case api.Mod:
		return api.UMod
	case api.Lt:
		return api.ULt
	case api.Le:
		return api.ULe
	}
	return sub
}

// far does an operation in which there are pointers.
func (l *lowering) far(op string, n *check.Node, a int, b int) int {
	size := n.Work.To.Size()
	s, t := l.prog.Value(n.Subs[0]), l.prog.Value(n.Subs[1])
	switch {
	case op == "+" && s.Kind == check.Int:
		return l.bin(api.Add, b, l.scaled(a, size), true)
	case op == "+":
		return l.bin(api.Add, a, l.scaled(b, size), true)
	case op == "-" && t.Kind == check.Int:
		return l.bin(api.Sub, a, l.scaled(b, size), true)
	case op == "-":
		r := l.bin(api.Sub, a, b, true)
		if size == 1 {
			return r
		}
		return l.bin(api.Div, r, l.number(int64(size)), true)
	}
	sub, swap := check.Sub(op)
	if swap {
		a, b = b, a
	}
	return l.bin(plain(sub, api.Width{Bits: 64}), a, b, false)
}
