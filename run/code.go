package run

import (
	"spokeshave/api"
	"spokeshave/blocks"
	"spokeshave/check"
	"spokeshave/tree"
)

// Kinds of what a function does, one behind the other.
const (
	opEval   = 1 // a node, whose value nobody asks for
	opLet    = 2
	opReturn = 3
	opJump   = 4
	opGoto   = 5
	opIf     = 6 // goes to to, if the node's value is as want tells
	opSwitch = 7
	opTick   = 8 // a step for a condition that is not there
)

// op is one of these. cases: of opSwitch where each number leads; to: where all else leads.
type op struct {
	kind  int
	node  *check.Node
	sym   *check.Symbol
	want  bool
	to    int
	cases map[int64]int
	work  *check.Type
}

// code is a function's statements, laid flat so that a goto may lead anywhere.
type code struct {
	fn     *check.Fn
	ops    []op
	rooms  []*room
	bytes  int
	labels map[string]int
	gotos  []jump
}

// jump is an op that leads to a label.
type jump struct {
	at   int
	name string
}

// loop is where a break and a continue lead: the ops that wait for it.
type loop struct {
	breaks, continues []int
}

// flatten lays a function's statements flat.
func flatten(p *check.Program, fn *check.Fn) *code {
	c := &code{fn: fn, labels: map[string]int{}}
	for _, s := range fn.Vars {
		c.rooms = append(c.rooms, &room{prog: p, typ: s.Type})
		c.bytes += (s.Type.Size() + 15) / 16 * 16
	}
	c.stmt(fn.Body, nil, nil)
	for _, g := range c.gotos {
		c.ops[g.at].to = c.labels[g.name]
	}
	return c
}

func (c *code) add(o op) int {
	c.ops = append(c.ops, o)
	return len(c.ops) - 1
}

// lead lets ops lead to the place that comes next.
func (c *code) lead(ats []int) {
	for _, at := range ats {
		c.ops[at].to = len(c.ops)
	}
}

func (c *code) stmts(list []*check.Stmt, brk *loop, cont *loop) {
	for _, s := range list {
		c.stmt(s, brk, cont)
	}
}

func (c *code) stmt(s *check.Stmt, brk *loop, cont *loop) {
	switch s.Kind {
	case tree.Block:
		c.stmts(s.Body, brk, cont)
	case tree.Let:
		c.add(op{kind: opLet, sym: s.Sym, node: s.Exprs[0]})
	case tree.If:
		c.branch(s, brk, cont)
	case tree.While, tree.Do, tree.For:
		c.loop(s)
	case tree.Switch:
		c.choice(s, cont)
	case tree.Break:
		brk.breaks = append(brk.breaks, c.add(op{kind: opJump}))
	case tree.Continue:
		cont.continues = append(cont.continues, c.add(op{kind: opJump}))
	case tree.Return:
		c.add(op{kind: opReturn, node: s.Exprs[0]})
	case tree.Goto:
		c.gotos = append(c.gotos, jump{at: c.add(op{kind: opGoto}), name: s.Name})
	case tree.Label:
		c.labels[s.Name] = len(c.ops)
		c.stmts(s.Body, brk, cont)
	case tree.Expand:
		c.add(op{kind: opEval, node: s.Exprs[0]})
	}
}

func (c *code) branch(s *check.Stmt, brk *loop, cont *loop) {
	past := c.add(op{kind: opIf, node: s.Exprs[0]})
	c.stmt(s.Body[0], brk, cont)
	if len(s.Body) > 1 {
		end := c.add(op{kind: opJump})
		c.lead([]int{past})
		c.stmt(s.Body[1], brk, cont)
		past = end
	}
	c.lead([]int{past})
}

func (c *code) loop(s *check.Stmt) {
	l := &loop{}
	if s.Kind == tree.For && s.Exprs[0] != nil {
		c.add(op{kind: opEval, node: s.Exprs[0]})
	}
	begin := len(c.ops)
	switch {
	case s.Kind == tree.While:
		l.breaks = append(l.breaks, c.add(op{kind: opIf, node: s.Exprs[0]}))
	case s.Kind == tree.For && s.Exprs[1] != nil:
		l.breaks = append(l.breaks, c.add(op{kind: opIf, node: s.Exprs[1]}))
	case s.Kind == tree.For:
		c.add(op{kind: opTick})
	}
	c.stmts(s.Body, l, l)
	c.lead(l.continues)
	switch {
	case s.Kind == tree.Do:
		c.add(op{kind: opIf, node: s.Exprs[0], want: true, to: begin})
	case s.Kind == tree.For && s.Exprs[2] != nil:
		c.add(op{kind: opEval, node: s.Exprs[2]})
		fallthrough
	default:
		c.add(op{kind: opJump, to: begin})
	}
	c.lead(l.breaks)
}

func (c *code) choice(s *check.Stmt, cont *loop) {
	l := &loop{}
	at := c.add(op{kind: opSwitch, node: s.Exprs[0], cases: map[int64]int{}, work: s.Work})
	def := -1
	for _, b := range s.Body {
		switch b.Kind {
		case tree.Case:
			c.ops[at].cases[b.N] = len(c.ops)
		case tree.Default:
			def = len(c.ops)
		default:
			c.stmt(b, l, cont)
		}
	}
	c.lead(l.breaks)
	if def < 0 {
		def = len(c.ops)
	}
	c.ops[at].to = def
}

// enter calls a function with what it is handed.
func (m *machine) enter(index int, args []blocks.Value) (blocks.Value, bool) {
	c := m.codes[index]
	if c == nil {
		c = flatten(m.prog, m.prog.Fns[index])
		m.codes[index] = c
	}
	if m.calls == mostCalls || m.bytes+c.bytes > mostBytes {
		return blocks.Value{}, m.stop(api.OutOfFuel)
	}
	m.calls++
	m.bytes += c.bytes
	locals := make([]int, len(c.rooms))
	for i, r := range c.rooms {
		locals[i] = m.store.Add(r.typ.Size(), r)
		if i < len(args) {
			m.store.Write(pointer(locals[i], 0), r.typ.Code, args[i])
		}
	}
	v, ok := m.do(c, locals)
	for _, b := range locals {
		m.store.End(b)
	}
	m.calls--
	m.bytes -= c.bytes
	return v, ok
}

// do goes over a function's ops till it answers.
func (m *machine) do(c *code, locals []int) (blocks.Value, bool) {
	at := 0
	for at < len(c.ops) {
		o := &c.ops[at]
		at++
		ok := true
		switch o.kind {
		case opEval:
			_, ok = m.eval(locals, o.node)
		case opLet:
			ok = m.let(locals, o)
		case opReturn:
			return m.answer(c, locals, o)
		case opJump:
			at = o.to
		case opGoto:
			ok = m.step()
			at = o.to
		case opTick:
			ok = m.step()
		case opIf:
			var is bool
			is, ok = m.asks(locals, o.node)
			if is == o.want {
				at = o.to
			}
		case opSwitch:
			at, ok = m.choose(locals, o)
		}
		if !ok {
			return blocks.Value{}, false
		}
	}
	if c.fn == m.prog.Fns[m.prog.Main] {
		return number(0), true
	}
	return blocks.Value{}, true
}

func (m *machine) let(locals []int, o *op) bool {
	if !m.step() {
		return false
	}
	b := locals[o.sym.Index]
	if o.node == nil {
		m.store.Clear(b)
		return true
	}
	v, ok := m.as(locals, o.node, o.sym.Type)
	return ok && m.write(pointer(b, 0), o.sym.Type, v)
}

func (m *machine) answer(c *code, locals []int, o *op) (blocks.Value, bool) {
	if !m.step() {
		return blocks.Value{}, false
	}
	if o.node == nil {
		return blocks.Value{}, true
	}
	return m.as(locals, o.node, c.fn.Sym.Type.To)
}

func (m *machine) choose(locals []int, o *op) (int, bool) {
	v, ok := m.as(locals, o.node, o.work)
	if !ok {
		return 0, false
	}
	if to, is := o.cases[v.N]; is {
		return to, true
	}
	return o.to, true
}
