package run

import (
	"spokeshave/api"
	"spokeshave/blocks"
	"spokeshave/check"
	"spokeshave/tree"
	"spokeshave/word"
)

// undefined ends the run as undefined.
func (m *machine) undefined() (blocks.Value, bool) {
	return blocks.Value{}, m.stop(api.Undefined)
}

// or answers v, or, if it is not right, that the run is undefined.
func (m *machine) or(v blocks.Value, ok bool) (blocks.Value, bool) {
	if !ok {
		return m.undefined()
	}
	return v, true
}

// value answers what a node comes to, where that is used.
func (m *machine) value(locals []int, n *check.Node) (blocks.Value, bool) {
	v, ok := m.eval(locals, n)
	if ok && v.Kind == blocks.Unset {
		return m.undefined()
	}
	return v, ok
}

// as answers what a node comes to, turned to a type.
func (m *machine) as(locals []int, n *check.Node, t *check.Type) (blocks.Value, bool) {
	v, ok := m.value(locals, n)
	if !ok {
		return v, false
	}
	return turn(v, t), true
}

// turn brings a value to a type; the number 0 that stands for a pointer is none.
func turn(v blocks.Value, t *check.Type) blocks.Value {
	switch {
	case v.Kind != blocks.Number:
		return v
	case t.Kind == check.Pointer:
		return none()
	}
	return number(word.Wrap(t.Width, v.N))
}

// asks tells whether a node's value is neither 0 nor none.
func (m *machine) asks(locals []int, n *check.Node) (bool, bool) {
	v, ok := m.value(locals, n)
	return ok && is(v), ok
}

func is(v blocks.Value) bool {
	if v.Kind == blocks.Number {
		return v.N != 0
	}
	return !blocks.None(v)
}

func truth(is bool) blocks.Value {
	if is {
		return number(1)
	}
	return number(0)
}

// eval answers what a node comes to; unset, if it is a call that answers nothing.
func (m *machine) eval(locals []int, n *check.Node) (blocks.Value, bool) {
	if !m.step() {
		return blocks.Value{}, false
	}
	switch n.Kind {
	case tree.Num, tree.Size:
		return number(n.N), true
	case tree.Name:
		if n.Sym.Kind == check.Function {
			return function(n.Sym), true
		}
	case tree.Un:
		if n.Op != "*" || n.Type.Kind == check.Func {
			return m.unary(locals, n)
		}
	case tree.Bin:
		return m.binary(locals, n)
	case tree.And, tree.Or:
		return m.logic(locals, n)
	case tree.Cond:
		return m.cond(locals, n)
	case tree.Set:
		return m.set(locals, n)
	case tree.Call:
		return m.call(locals, n)
	case tree.Cast:
		return m.as(locals, n.Subs[0], n.Type)
	}
	p, ok := m.locate(locals, n)
	if !ok {
		return p, false
	}
	return m.load(p, n.Type)
}

// load answers what stands at a place; of an array the pointer to its first part.
func (m *machine) load(p blocks.Value, t *check.Type) (blocks.Value, bool) {
	if t.Kind == check.Array {
		return p, true
	}
	return m.or(m.store.Read(p, t.Code))
}

func (m *machine) write(p blocks.Value, t *check.Type, v blocks.Value) bool {
	return m.store.Write(p, t.Code, v) || m.stop(api.Undefined)
}

// place answers where a node is.
func (m *machine) place(locals []int, n *check.Node) (blocks.Value, bool) {
	if !m.step() {
		return blocks.Value{}, false
	}
	return m.locate(locals, n)
}

// locate is place, of a node whose step is taken.
func (m *machine) locate(locals []int, n *check.Node) (blocks.Value, bool) {
	switch n.Kind {
	case tree.Name:
		if n.Sym.Global {
			return pointer(m.globals[n.Sym.Index], 0), true
		}
		return pointer(locals[n.Sym.Index], 0), true
	case tree.Un:
		return m.value(locals, n.Subs[0])
	case tree.Dot:
		p, ok := m.place(locals, n.Subs[0])
		if !ok {
			return p, false
		}
		return m.or(m.store.Move(p, int64(n.At)))
	case tree.Arrow:
		p, ok := m.value(locals, n.Subs[0])
		if !ok {
			return p, false
		}
		return m.or(m.store.Move(p, int64(n.At)))
	}
	p, ok := m.value(locals, n.Subs[0])
	if !ok {
		return p, false
	}
	i, ok := m.value(locals, n.Subs[1])
	if !ok {
		return i, false
	}
	return m.move(p, n.Type, i.N, m.prog.Value(n.Subs[1]), 1)
}

// move answers a pointer that is so many parts on, or, with sign -1, back.
func (m *machine) move(p blocks.Value, part *check.Type, n int64, t *check.Type, sign int64) (blocks.Value, bool) {
	// No block is as large as this; a number that is as far away leads out of each.
	const far = 1 << 31
	if n > far || n < -far || n < 0 && !t.Width.Signed {
		return m.undefined()
	}
	return m.or(m.store.Move(p, sign*n*int64(part.Size())))
}

func (m *machine) unary(locals []int, n *check.Node) (blocks.Value, bool) {
	sub := n.Subs[0]
	if n.Op == "&" {
		if sub.Kind == tree.Name && sub.Sym.Kind == check.Function {
			return m.eval(locals, sub)
		}
		return m.place(locals, sub)
	}
	v, ok := m.value(locals, sub)
	if !ok {
		return v, false
	}
	switch n.Op {
	case "-":
		r, ok := word.Negate(n.Type.Width, v.N)
		return m.or(number(r), ok)
	case "~":
		return number(word.Invert(n.Type.Width, v.N)), true
	case "!":
		return truth(!is(v)), true
	}
	return v, true
}

func (m *machine) logic(locals []int, n *check.Node) (blocks.Value, bool) {
	a, ok := m.asks(locals, n.Subs[0])
	if !ok {
		return blocks.Value{}, false
	}
	if a == (n.Kind == tree.Or) {
		return truth(a), true
	}
	b, ok := m.asks(locals, n.Subs[1])
	return truth(b), ok
}

func (m *machine) cond(locals []int, n *check.Node) (blocks.Value, bool) {
	a, ok := m.asks(locals, n.Subs[0])
	if !ok {
		return blocks.Value{}, false
	}
	part := n.Subs[2]
	if a {
		part = n.Subs[1]
	}
	if n.Type.Kind == check.Void {
		return m.eval(locals, part)
	}
	return m.as(locals, part, n.Type)
}

func (m *machine) binary(locals []int, n *check.Node) (blocks.Value, bool) {
	a, ok := m.value(locals, n.Subs[0])
	if !ok {
		return a, false
	}
	b, ok := m.value(locals, n.Subs[1])
	if !ok {
		return b, false
	}
	return m.reckon(n.Op, n, a, b)
}

// reckon does an operation of two values, those of a node's parts.
func (m *machine) reckon(op string, n *check.Node, a blocks.Value, b blocks.Value) (blocks.Value, bool) {
	if n.Work.Kind == check.Int {
		r, ok := check.Reckon(op, n.Work.Width, a.N, b.N)
		return m.or(number(r), ok)
	}
	part := n.Work.To
	switch op {
	case "+":
		if a.Kind == blocks.Number {
			return m.move(b, part, a.N, m.prog.Value(n.Subs[0]), 1)
		}
		return m.move(a, part, b.N, m.prog.Value(n.Subs[1]), 1)
	case "-":
		if b.Kind == blocks.Number {
			return m.move(a, part, b.N, m.prog.Value(n.Subs[1]), -1)
		}
		d, ok := m.store.Distance(a, b)
		size := int64(part.Size())
		return m.or(number(d/size), ok && d%size == 0)
	}
	return m.compare(op, turn(a, n.Work), turn(b, n.Work))
}

// compare holds two pointers against one another.
func (m *machine) compare(op string, a blocks.Value, b blocks.Value) (blocks.Value, bool) {
	var yes, ok bool
	switch op {
	case "==", "!=":
		yes, ok = m.store.Equal(a, b)
		yes = yes == (op == "==")
	case "<", ">=":
		yes, ok = m.store.Less(a, b)
		yes = yes == (op == "<")
	case ">", "<=":
		yes, ok = m.store.Less(b, a)
		yes = yes == (op == ">")
	}
	return m.or(truth(yes), ok)
}

func (m *machine) set(locals []int, n *check.Node) (blocks.Value, bool) {
	p, ok := m.place(locals, n.Subs[0])
	if !ok {
		return p, false
	}
	var v blocks.Value
	if n.Op == "=" {
		v, ok = m.value(locals, n.Subs[1])
	} else {
		v, ok = m.change(locals, n, p)
	}
	if !ok {
		return v, false
	}
	v = turn(v, n.Type)
	return v, m.write(p, n.Type, v)
}

// change answers what op= makes of what stands at a place.
func (m *machine) change(locals []int, n *check.Node, p blocks.Value) (blocks.Value, bool) {
	a, ok := m.load(p, n.Type)
	if !ok {
		return a, false
	}
	b, ok := m.value(locals, n.Subs[1])
	if !ok {
		return b, false
	}
	return m.reckon(n.Op[:len(n.Op)-1], n, a, b)
}

func (m *machine) call(locals []int, n *check.Node) (blocks.Value, bool) {
	callee := n.Subs[0]
	f, ok := m.value(locals, callee)
	if !ok {
		return f, false
	}
	params := m.prog.Value(callee).To.Params
	var args []blocks.Value
	for i, a := range n.Subs[1:] {
		v, ok := m.as(locals, a, params[i])
		if !ok {
			return v, false
		}
		args = append(args, v)
	}
	if callee.Kind == tree.Name && callee.Sym.Builtin != 0 {
		return m.builtin(callee.Sym.Builtin, args)
	}
	if f.Kind != blocks.Function {
		return m.undefined()
	}
	return m.enter(int(f.N), args)
}

// builtin calls a function that is known ahead.
func (m *machine) builtin(which int, args []blocks.Value) (blocks.Value, bool) {
	switch which {
	case check.PutByte:
		m.out = append(m.out, byte(args[0].N))
	case check.Exit:
		m.exit(args[0].N)
		return blocks.Value{}, false
	case check.GetByte:
		if m.read == len(m.input) {
			return number(-1), true
		}
		m.read++
		return number(int64(m.input[m.read-1])), true
	}
	return blocks.Value{}, true
}
