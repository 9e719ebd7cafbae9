package check

import (
	"spokeshave/tree"
	"spokeshave/word"
)

// body is what is known of the function that is gone over. loops, breaks: how many a continue, a break may leave.
type body struct {
	fn            *Fn
	answer        *Type
	labels        map[string]int
	gotos         []string
	loops, breaks int
}

// ends holds the gotos against the labels.
func (b *body) ends(c *checker) {
	for _, name := range b.gotos {
		if b.labels[name] == 0 {
			c.faults.name = true
		}
	}
}

func (c *checker) stmts(list []*tree.Stmt) []*Stmt {
	var out []*Stmt
	for _, s := range list {
		out = append(out, c.stmt(s))
	}
	return out
}

func (c *checker) stmt(s *tree.Stmt) *Stmt {
	out := &Stmt{Kind: s.Kind, Name: s.Name}
	switch s.Kind {
	case tree.Block:
		c.open()
		out.Body = c.stmts(s.Body)
		c.close()
	case tree.Let:
		c.let(s, out)
	case tree.If:
		out.Exprs[0] = c.condition(s.Exprs[0])
		out.Body = c.stmts(s.Body)
	case tree.While, tree.Do, tree.For:
		c.loop(s, out)
	case tree.Switch:
		c.choice(s, out)
	case tree.Break:
		c.faults.flow = c.faults.flow || c.body.breaks == 0
	case tree.Continue:
		c.faults.flow = c.faults.flow || c.body.loops == 0
	case tree.Return:
		c.returns(s, out)
	case tree.Goto:
		c.body.gotos = append(c.body.gotos, s.Name)
	case tree.Label:
		if c.body.labels[s.Name] != 0 {
			c.faults.name = true
		}
		c.body.labels[s.Name] = 1
		out.Body = c.stmts(s.Body)
	case tree.Expand:
		out.Exprs[0] = c.discard(s.Exprs[0])
	}
	return out
}

// condition checks an expression whose value is asked for.
func (c *checker) condition(e *tree.Expr) *Node {
	n := c.root(e)
	if n.Type != nil && !c.asks(n) {
		c.faults.typ = true
	}
	return n
}

// discard checks an expression whose value nobody asks for.
func (c *checker) discard(e *tree.Expr) *Node {
	n := c.root(e)
	if n.Type != nil && n.Type.Kind == Struct {
		c.faults.typ = true
	}
	return n
}

func (c *checker) let(s *tree.Stmt, out *Stmt) {
	t := c.variable(s.Var)
	fn := c.body.fn
	out.Sym = &Symbol{Kind: Variable, Name: s.Var.Name, Type: t, Index: len(fn.Vars)}
	fn.Vars = append(fn.Vars, out.Sym)
	c.declare(out.Sym)
	if s.Exprs[0] == nil {
		return
	}
	n := c.root(s.Exprs[0])
	out.Exprs[0] = n
	if t != nil && n.Type != nil && !c.assigns(t, n) || t != nil && !t.Scalar() {
		c.faults.typ = true
	}
}

func (c *checker) loop(s *tree.Stmt, out *Stmt) {
	if s.Kind == tree.While {
		out.Exprs[0] = c.condition(s.Exprs[0])
	}
	if s.Kind == tree.For {
		for i, e := range s.Exprs {
			switch {
			case e == nil:
			case i == 1:
				out.Exprs[i] = c.condition(e)
			default:
				out.Exprs[i] = c.discard(e)
			}
		}
	}
	c.body.loops++
	c.body.breaks++
	out.Body = c.stmts(s.Body)
	c.body.loops--
	c.body.breaks--
	if s.Kind == tree.Do {
		out.Exprs[0] = c.condition(s.Exprs[0])
	}
}

func (c *checker) choice(s *tree.Stmt, out *Stmt) {
	n := c.root(s.Exprs[0])
	out.Exprs[0] = n
	// Cases that are one number of 64 bits are the same in every type, also where the value has none.
	work := c.types.integer(u64)
	if t := c.value(n); t != nil && t.Kind == Int {
		work = c.types.integer(word.Promote(t.Width))
	} else if t != nil {
		c.faults.typ = true
	}
	out.Work = work
	c.open()
	c.body.breaks++
	seen := map[int64]int{}
	first, defaults := true, 0
	for _, b := range s.Body {
		switch b.Kind {
		case tree.Case:
			v := word.Wrap(work.Width, signed(b))
			c.faults.flow = c.faults.flow || seen[v] != 0
			seen[v] = 1
			out.Body = append(out.Body, &Stmt{Kind: tree.Case, N: v})
			first = false
		case tree.Default:
			c.faults.flow = c.faults.flow || defaults > 0
			defaults++
			out.Body = append(out.Body, &Stmt{Kind: tree.Default})
			first = false
		default:
			c.faults.flow = c.faults.flow || first
			out.Body = append(out.Body, c.stmt(b))
		}
	}
	c.body.breaks--
	c.close()
}

func signed(s *tree.Stmt) int64 {
	if s.Minus {
		return -int64(s.Num)
	}
	return int64(s.Num)
}

func (c *checker) returns(s *tree.Stmt, out *Stmt) {
	answer := c.body.answer
	if s.Exprs[0] == nil {
		if answer != nil && answer.Kind != Void {
			c.faults.typ = true
		}
		return
	}
	n := c.root(s.Exprs[0])
	out.Exprs[0] = n
	switch {
	case answer == nil:
	case answer.Kind == Void:
		c.faults.typ = true
	case n.Type != nil && !c.assigns(answer, n):
		c.faults.typ = true
	}
}
