package lower

import (
	"spokeshave/api"
	"spokeshave/check"
	"spokeshave/tree"
)

// decide leads to yes, if a node's value is not 0, else to no.
func (l *lowering) decide(n *check.Node, yes int, no int) {
	switch {
	case n.Kind == tree.And:
		more := l.block()
		l.decide(n.Subs[0], more, no)
		l.start(more)
		l.decide(n.Subs[1], yes, no)
	case n.Kind == tree.Or:
		more := l.block()
		l.decide(n.Subs[0], yes, more)
		l.start(more)
		l.decide(n.Subs[1], yes, no)
	case n.Kind == tree.Un && n.Op == "!":
		l.decide(n.Subs[0], no, yes)
	default:
		l.end(api.Ins{Op: api.OpBranch, A: l.value(n), To: []int{yes, no}})
	}
}

// truth answers a register that has 1 or 0, as an and, an or tells.
func (l *lowering) truth(n *check.Node) int {
	r := l.fresh(false)
	yes, no, past := l.block(), l.block(), l.block()
	l.decide(n, yes, no)
	l.start(yes)
	l.emit(api.Ins{Op: api.OpConst, D: r, N: 1})
	l.jump(past)
	l.start(no)
	l.emit(api.Ins{Op: api.OpConst, D: r})
	l.start(past)
	return r
}

func (l *lowering) cond(n *check.Node) int {
	void := n.Type.Kind == check.Void
	r := -1
	if !void {
		r = l.fresh(pointer(n.Type))
	}
	yes, no, past := l.block(), l.block(), l.block()
	l.decide(n.Subs[0], yes, no)
	for i, b := range []int{yes, no} {
		l.start(b)
		part := n.Subs[i+1]
		if void {
			l.value(part)
		} else {
			l.emit(api.Ins{Op: api.OpMove, D: r, A: l.as(part, n.Type)})
		}
		l.lead(past)
	}
	l.start(past)
	return r
}

// returns answers a node's value. Each way of a cond has a return of its own, so that a call there is one at the end.
func (l *lowering) returns(n *check.Node, turns ...*check.Type) {
	if n.Kind == tree.Cond {
		yes, no := l.block(), l.block()
		l.decide(n.Subs[0], yes, no)
		turns = append(turns[:len(turns):len(turns)], n.Type)
		l.start(yes)
		l.returns(n.Subs[1], turns...)
		l.start(no)
		l.returns(n.Subs[2], turns...)
		return
	}
	r, t := l.value(n), l.prog.Value(n)
	for k := len(turns) - 1; k >= 0; k-- {
		r = l.turn(r, t, turns[k])
		t = turns[k]
	}
	l.end(api.Ins{Op: api.OpRet, A: l.turn(r, t, l.fn.Sym.Type.To)})
}

func (l *lowering) set(n *check.Node) int {
	to, from := n.Subs[0], n.Subs[1]
	p := l.place(to)
	p.at = l.pin(p.at, l.prog.Pointer(to.Type), from)
	var r int
	if n.Op == "=" {
		r = l.as(from, n.Type)
	} else {
		old := l.pin(l.load(p, to.Type), to.Type, from)
		r = l.binary(n.Op[:len(n.Op)-1], n, old, l.value(from))
		if n.Work.Kind == check.Int {
			r = l.turn(r, n.Work, n.Type)
		}
	}
	l.store(p, n.Type, r)
	return r
}

// call lowers a call; its answer is a register that has what is answered, if that is wanted.
func (l *lowering) call(n *check.Node, wanted bool) int {
	callee, args := n.Subs[0], n.Subs[1:]
	params := l.prog.Value(callee).To.Params
	named := callee.Kind == tree.Name && callee.Sym.Kind == check.Function
	i := api.Ins{Op: api.OpCall, D: -1}
	if named {
		i.N = int64(callee.Sym.Index)
	} else {
		i.Op = api.OpCallAt
		i.A = l.pin(l.value(callee), l.prog.Value(callee), args...)
	}
	for k, a := range args {
		r := l.as(a, params[k])
		i.Args = append(i.Args, l.pin(r, params[k], args[k+1:]...))
	}
	if named && callee.Sym.Builtin != 0 {
		return l.builtin(callee.Sym.Builtin, i.Args)
	}
	if wanted {
		i.D = l.fresh(pointer(n.Type))
	}
	l.emit(i)
	return i.D
}

// builtin lowers a call of a function that is known ahead.
func (l *lowering) builtin(which int, args []int) int {
	switch which {
	case check.GetByte:
		r := l.fresh(false)
		l.emit(api.Ins{Op: api.OpIn, D: r})
		return r
	case check.PutByte:
		l.emit(api.Ins{Op: api.OpOut, A: args[0]})
	case check.Exit:
		l.end(api.Ins{Op: api.OpExit, A: args[0]})
	}
	return -1
}
