package tree

import "spokeshave/api"

func (p *parser) block() *Stmt {
	s := &Stmt{Kind: Block}
	p.want("{")
	for !p.take("}") {
		if p.at == len(p.toks) {
			p.lost()
			break
		}
		s.Body = append(s.Body, p.stmt())
	}
	return s
}

func (p *parser) stmt() *Stmt {
	k := p.peek(0)
	switch {
	case p.is("{"):
		return p.block()
	case p.take(";"):
		return &Stmt{Kind: Skip}
	case p.typed():
		return p.let()
	case k.Kind == api.TokName && p.peek(1).Text == ":":
		p.next()
		p.next()
		return &Stmt{Kind: Label, Name: k.Text, Body: []*Stmt{p.stmt()}}
	case k.Kind == api.TokWord && k.Text != "sizeof":
		return p.worded()
	}
	s := &Stmt{Kind: Expand}
	s.Exprs[0] = p.expr()
	p.want(";")
	return s
}

func (p *parser) let() *Stmt {
	s := &Stmt{Kind: Let}
	s.Var.Type = p.typ()
	s.Var.Name = p.name()
	p.number(&s.Var)
	if p.take("=") {
		s.Exprs[0] = p.expr()
	}
	p.want(";")
	return s
}

// worded reads a statement that begins with a word.
func (p *parser) worded() *Stmt {
	s := &Stmt{}
	switch p.peek(0).Text {
	case "if":
		p.branch(s)
	case "while":
		p.next()
		s.Kind = While
		s.Exprs[0] = p.asked()
		s.Body = []*Stmt{p.stmt()}
	case "do":
		p.next()
		s.Kind = Do
		s.Body = []*Stmt{p.stmt()}
		p.want("while")
		s.Exprs[0] = p.asked()
		p.want(";")
	case "for":
		p.loop(s)
	case "switch":
		p.choice(s)
	case "break":
		p.plain(s, Break)
	case "continue":
		p.plain(s, Continue)
	case "return":
		p.next()
		s.Kind = Return
		if !p.is(";") {
			s.Exprs[0] = p.expr()
		}
		p.want(";")
	case "goto":
		p.next()
		s.Kind, s.Name = Goto, p.name()
		p.want(";")
	default:
		p.lost()
	}
	return s
}

func (p *parser) plain(s *Stmt, kind int) {
	p.next()
	s.Kind = kind
	p.want(";")
}

// asked reads an expression in parentheses.
func (p *parser) asked() *Expr {
	p.want("(")
	e := p.expr()
	p.want(")")
	return e
}

func (p *parser) branch(s *Stmt) {
	p.next()
	s.Kind = If
	s.Exprs[0] = p.asked()
	s.Body = []*Stmt{p.stmt()}
	if p.take("else") {
		s.Body = append(s.Body, p.stmt())
	}
}

func (p *parser) loop(s *Stmt) {
	p.next()
	s.Kind = For
	p.want("(")
	for i := range s.Exprs {
		stop := ";"
		if i == 2 {
			stop = ")"
		}
		if !p.is(stop) {
			s.Exprs[i] = p.expr()
		}
		p.want(stop)
	}
	s.Body = []*Stmt{p.stmt()}
}

func (p *parser) choice(s *Stmt) {
	p.next()
	s.Kind = Switch
	s.Exprs[0] = p.asked()
	p.want("{")
	for !p.take("}") {
		switch {
		case p.at == len(p.toks):
			p.lost()
			return
		case p.is("case"):
			s.Body = append(s.Body, p.labelled())
		case p.take("default"):
			p.want(":")
			s.Body = append(s.Body, &Stmt{Kind: Default})
		default:
			s.Body = append(s.Body, p.stmt())
		}
	}
}

func (p *parser) labelled() *Stmt {
	p.next()
	s := &Stmt{Kind: Case, Minus: p.take("-")}
	k := p.peek(0)
	switch k.Kind {
	case api.TokNum:
		p.numberType(k)
	case api.TokChar:
	default:
		p.lost()
	}
	p.next()
	s.Num = k.Num
	p.want(":")
	return s
}
