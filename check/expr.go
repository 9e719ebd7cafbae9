package check

import (
	"spokeshave/api"
	"spokeshave/tree"
	"spokeshave/word"
)

// root checks an expression that lies in no other one.
func (c *checker) root(e *tree.Expr) *Node {
	n := c.expr(e)
	c.prog.Roots = append(c.prog.Roots, n)
	return n
}

// bad notes that a node has no type.
func (c *checker) bad(n *Node) *Node {
	c.faults.typ = true
	n.Type = nil
	return n
}

// expr checks an expression; its node's Type is nil, if something in it is wrong.
func (c *checker) expr(e *tree.Expr) *Node {
	n := &Node{Kind: e.Kind, Op: e.Op}
	if e.Kind == tree.Name {
		return c.name(n, e.Name, false)
	}
	whole := true
	for i, sub := range e.Subs {
		var m *Node
		if e.Kind == tree.Call && i == 0 && sub.Kind == tree.Name {
			m = c.name(&Node{Kind: tree.Name}, sub.Name, true)
		} else {
			m = c.expr(sub)
		}
		n.Subs = append(n.Subs, m)
		whole = whole && m.Type != nil
	}
	switch e.Kind {
	case tree.Num:
		n.Type, _ = c.resolve(e.Type)
		n.N = int64(e.Num)
	case tree.Size:
		return c.size(n, e)
	case tree.Cast:
		t := c.scalar(e.Type)
		if t != nil && whole {
			return c.cast(n, t)
		}
	case tree.Dot, tree.Arrow:
		if whole {
			return c.field(n, e.Name)
		}
	default:
		if whole {
			return c.operation(n)
		}
	}
	return n
}

// operation finds the type of a node whose parts have theirs.
func (c *checker) operation(n *Node) *Node {
	switch n.Kind {
	case tree.Un:
		return c.unary(n)
	case tree.Bin:
		n.Type, n.Work = c.binary(n.Op, n.Subs[0], n.Subs[1])
		if n.Type == nil {
			return c.bad(n)
		}
	case tree.And, tree.Or:
		if !c.asks(n.Subs[0]) || !c.asks(n.Subs[1]) {
			return c.bad(n)
		}
		n.Type = c.types.integer(i32)
	case tree.Cond:
		return c.cond(n)
	case tree.Set:
		return c.set(n)
	case tree.Index:
		return c.index(n)
	case tree.Call:
		return c.call(n)
	}
	return n
}

func (c *checker) name(n *Node, name string, called bool) *Node {
	s := c.find(name)
	switch {
	case s == nil:
		c.faults.name = true
	case s.Kind == Named || s.Builtin != 0 && !called:
		return c.bad(n)
	default:
		n.Sym, n.Type = s, s.Type
	}
	return n
}

// asks tells whether a node's value may be a condition.
func (c *checker) asks(n *Node) bool { return c.value(n).Scalar() }

func (c *checker) size(n *Node, e *tree.Expr) *Node {
	t, ok := c.resolve(e.Type)
	n.N = 1
	if e.Array {
		if e.Num == 0 || e.Num > api.MaxArray {
			c.faults.size = true
		}
		n.N = int64(e.Num)
	}
	if !ok {
		return n
	}
	if t.Kind == Void || t.Kind == Func {
		return c.bad(n)
	}
	n.N *= int64(t.Size())
	n.Type = c.types.integer(u64)
	return n
}

func (c *checker) cast(n *Node, t *Type) *Node {
	if t.Kind != Int || c.value(n.Subs[0]).Kind != Int {
		return c.bad(n)
	}
	n.Type = t
	return n
}

func (c *checker) field(n *Node, name string) *Node {
	t := n.Subs[0].Type
	if n.Kind == tree.Arrow {
		t = c.value(n.Subs[0])
		if t.Kind != Pointer {
			return c.bad(n)
		}
		t = t.To
	}
	if t.Kind != Struct || t.known == nil {
		return c.bad(n)
	}
	for i := range t.known.Fields {
		f := &t.known.Fields[i]
		if f.Var.Name == name {
			n.At, n.Type = f.At, c.fieldType(f)
			return n
		}
	}
	c.faults.name = true
	return n
}

func (c *checker) unary(n *Node) *Node {
	sub := n.Subs[0]
	t := c.value(sub)
	switch {
	case (n.Op == "-" || n.Op == "~") && t.Kind == Int:
		n.Type = c.types.integer(word.Promote(t.Width))
	case n.Op == "!" && t.Scalar():
		n.Type = c.types.integer(i32)
	case n.Op == "*" && t.Kind == Pointer:
		n.Type = t.To
	case n.Op == "&" && (placed(sub) || named(sub) != nil && sub.Kind == tree.Name):
		if sub.Kind == tree.Name {
			sub.Sym.Placed = true
		}
		n.Type = c.types.pointer(sub.Type)
	default:
		return c.bad(n)
	}
	return n
}

// binary answers the type of an operation of two, and the one it is reckoned in; nil, if there is none.
func (c *checker) binary(op string, a *Node, b *Node) (*Type, *Type) {
	s, t := c.value(a), c.value(b)
	whole := c.types.integer(i32)
	if s.Kind == Int && t.Kind == Int {
		usual := c.types.integer(word.Usual(s.Width, t.Width))
		switch op {
		case "==", "!=", "<", "<=", ">", ">=":
			return whole, usual
		case "<<", ">>":
			left := c.types.integer(word.Promote(s.Width))
			return left, left
		}
		return usual, usual
	}
	switch op {
	case "+":
		if s.walks() && t.Kind == Int {
			return s, s
		}
		if t.walks() && s.Kind == Int {
			return t, t
		}
	case "-":
		if s.walks() && t.Kind == Int {
			return s, s
		}
		if s.walks() && s == t {
			return c.types.integer(i64), s
		}
	case "==", "!=":
		if p := both(s, t, a, b); p != nil {
			return whole, p
		}
	case "<", "<=", ">", ">=":
		if s == t && s.Kind == Pointer && s.To.Kind != Func {
			return whole, s
		}
	}
	return nil, nil
}

// both answers the pointer's type that two values have, of which one may be 0; or nil.
func both(s *Type, t *Type, a *Node, b *Node) *Type {
	switch {
	case s.Kind == Pointer && (s == t || zero(b)):
		return s
	case t.Kind == Pointer && zero(a):
		return t
	}
	return nil
}

func (c *checker) cond(n *Node) *Node {
	s, t := c.value(n.Subs[1]), c.value(n.Subs[2])
	switch {
	case !c.asks(n.Subs[0]):
	case s.Kind == Int && t.Kind == Int:
		n.Type = c.types.integer(word.Usual(s.Width, t.Width))
	case s.Kind == Void && t.Kind == Void:
		n.Type = s
	default:
		n.Type = both(s, t, n.Subs[1], n.Subs[2])
	}
	if n.Type == nil {
		return c.bad(n)
	}
	return n
}

// assigns tells whether a node's value may be brought into a type.
func (c *checker) assigns(t *Type, n *Node) bool {
	v := c.value(n)
	if t.Kind == Pointer {
		return v == t || zero(n)
	}
	return t.Kind == Int && v.Kind == Int
}

func (c *checker) set(n *Node) *Node {
	to, from := n.Subs[0], n.Subs[1]
	if !placed(to) || !to.Type.Scalar() {
		return c.bad(n)
	}
	if n.Op == "=" {
		if !c.assigns(to.Type, from) {
			return c.bad(n)
		}
	} else {
		t, work := c.binary(n.Op[:len(n.Op)-1], to, from)
		if t == nil || t != to.Type && (t.Kind != Int || to.Type.Kind != Int) {
			return c.bad(n)
		}
		n.Work = work
	}
	n.Type = to.Type
	return n
}

func (c *checker) index(n *Node) *Node {
	p, i := c.value(n.Subs[0]), c.value(n.Subs[1])
	if !p.walks() || i.Kind != Int {
		return c.bad(n)
	}
	n.Type = p.To
	return n
}

func (c *checker) call(n *Node) *Node {
	t := c.value(n.Subs[0])
	args := n.Subs[1:]
	if t.Kind != Pointer || t.To.Kind != Func || len(args) != len(t.To.Params) {
		return c.bad(n)
	}
	for i, p := range t.To.Params {
		if !c.assigns(p, args[i]) {
			return c.bad(n)
		}
	}
	n.Type = t.To.To
	return n
}
