package check

import (
	"spokeshave/api"
	"spokeshave/tree"
)

func (c *checker) item(it *tree.Item) {
	switch it.Kind {
	case tree.Struct:
		c.structure(it)
	case tree.Typedef:
		c.typedef(it)
	case tree.Proto, tree.Func:
		c.function(it)
	case tree.Global:
		c.global(it)
	}
}

func (c *checker) structure(it *tree.Item) {
	name := it.Var.Name
	if c.structs[name] != 0 {
		c.faults.name = true
	}
	c.structs[name] = 1
	fields := map[string]int{}
	for _, v := range it.Vars {
		if fields[v.Name] != 0 {
			c.faults.name = true
		}
		fields[v.Name] = 1
		c.variable(v)
	}
	c.table.Add(it)
	c.types.make(Type{Kind: Struct, Name: name}).known = c.table.Known(name)
}

func (c *checker) typedef(it *tree.Item) {
	answer := c.answer(it.Var.Type)
	var params []*Type
	for _, t := range it.Types {
		params = append(params, c.scalar(t))
	}
	t := c.signature(answer, params)
	c.declare(&Symbol{Kind: Named, Name: it.Var.Name, Type: t, Global: true})
	if c.aliases[it.Var.Name] == nil {
		c.aliases[it.Var.Name] = t
	}
	c.table.Add(it)
}

// signature answers a function's type; nil, if a part of it is wrong.
func (c *checker) signature(answer *Type, params []*Type) *Type {
	if len(params) > api.MaxParams {
		c.faults.typ = true
		return nil
	}
	for _, p := range params {
		if p == nil {
			return nil
		}
	}
	if answer == nil {
		return nil
	}
	return c.types.function(answer, params)
}

func (c *checker) function(it *tree.Item) {
	answer := c.answer(it.Var.Type)
	var params []*Type
	for _, v := range it.Vars {
		params = append(params, c.scalar(v.Type))
	}
	s := c.declared(it, c.signature(answer, params))
	c.open()
	defer c.close()
	fn := &Fn{Sym: s, Params: len(params)}
	for i, v := range it.Vars {
		p := &Symbol{Kind: Variable, Name: v.Name, Type: params[i], Param: true, Index: i}
		c.declare(p)
		fn.Vars = append(fn.Vars, p)
	}
	if it.Kind == tree.Proto {
		return
	}
	c.define(fn)
	c.body = &body{fn: fn, answer: answer, labels: map[string]int{}}
	fn.Body = &Stmt{Kind: tree.Block, Body: c.stmts(it.Body.Body)}
	c.body.ends(c)
}

// declared answers the symbol of a function that is declared.
func (c *checker) declared(it *tree.Item, t *Type) *Symbol {
	name := it.Var.Name
	old := c.syms[place{0, name}]
	if old == nil {
		s := &Symbol{Kind: Function, Name: name, Type: t, Global: true}
		c.syms[place{0, name}] = s
		c.fns = append(c.fns, s)
		return s
	}
	if old.Kind != Function {
		c.faults.name = true
		return old
	}
	if old.Type != t {
		c.faults.typ = true
	}
	return old
}

// define notes that a function is defined, which it may be once.
func (c *checker) define(fn *Fn) {
	s := fn.Sym
	if s.Def != nil || s.Builtin != 0 {
		c.faults.name = true
		return
	}
	s.Def = fn
	s.Index = len(c.prog.Fns)
	c.prog.Fns = append(c.prog.Fns, fn)
}

func (c *checker) global(it *tree.Item) {
	t := c.variable(it.Var)
	s := &Symbol{Kind: Variable, Name: it.Var.Name, Type: t, Global: true, Index: len(c.prog.Globals)}
	c.declare(s)
	g := &Global{Sym: s}
	c.prog.Globals = append(c.prog.Globals, g)
	switch {
	case it.Listed:
		c.list(it, g)
	case it.Init != nil:
		n := c.root(it.Init)
		if t == nil {
			return
		}
		if !t.Scalar() {
			c.faults.typ = true
			return
		}
		c.piece(g, 0, t, n)
	}
}

// list takes in what a list tells of an array.
func (c *checker) list(it *tree.Item, g *Global) {
	t := g.Sym.Type
	whole := t != nil && t.Kind == Array && t.To.Scalar()
	if t != nil && !whole {
		c.faults.typ = true
	}
	for i, e := range it.List {
		n := c.root(e)
		if whole {
			c.piece(g, i*t.To.Size(), t.To, n)
		}
	}
	if whole && len(it.List) > t.Num {
		c.faults.konst = true
	}
}

// piece takes in what stands at a place of a global.
func (c *checker) piece(g *Global, at int, t *Type, n *Node) {
	if n.Type == nil {
		return
	}
	if !c.assigns(t, n) {
		c.faults.typ = true
		return
	}
	p := Piece{At: at, Type: t}
	ok := true
	if t.Kind == Pointer {
		p.Func = named(n)
		ok = zero(n) || p.Func != nil
	} else {
		p.N, ok = constant(t, n)
	}
	if !ok {
		c.faults.konst = true
		return
	}
	g.Pieces = append(g.Pieces, p)
}

// named answers the function whose name a node is, with & or without; or nil.
func named(n *Node) *Symbol {
	if n.Kind == tree.Un && n.Op == "&" {
		n = n.Subs[0]
	}
	if n.Kind == tree.Name && n.Sym != nil && n.Sym.Kind == Function {
		return n.Sym
	}
	return nil
}
