package tree

import "spokeshave/api"

func (p *parser) expr() *Expr {
	e := p.cond()
	switch op := p.peek(0).Text; op {
	case "=", "+=", "-=", "*=", "/=", "%=", "&=", "|=", "^=", "<<=", ">>=":
		p.next()
		return &Expr{Kind: Set, Op: op, Subs: []*Expr{e, p.expr()}}
	}
	return e
}

func (p *parser) cond() *Expr {
	e := p.binary(1)
	if !p.take("?") {
		return e
	}
	yes := p.expr()
	p.want(":")
	return &Expr{Kind: Cond, Subs: []*Expr{e, yes, p.cond()}}
}

// level tells how strongly an operation of two binds; 0: it is none.
func level(op string) int {
	switch op {
	case "||":
		return 1
	case "&&":
		return 2
	case "|":
		return 3
	case "^":
		return 4
	case "&":
		return 5
	case "==", "!=":
		return 6
	case "<", "<=", ">", ">=":
		return 7
	case "<<", ">>":
		return 8
	case "+", "-":
		return 9
	case "*", "/", "%":
		return 10
	}
	return 0
}

// binary reads what binds at least so strongly, from left to right.
func (p *parser) binary(least int) *Expr {
	left := p.unary()
	for {
		op := p.peek(0).Text
		l := level(op)
		if l < least {
			return left
		}
		p.next()
		right := p.binary(l + 1)
		e := &Expr{Kind: Bin, Op: op, Subs: []*Expr{left, right}}
		switch op {
		case "&&":
			e.Kind, e.Op = And, ""
		case "||":
			e.Kind, e.Op = Or, ""
		}
		left = e
	}
}

func (p *parser) unary() *Expr {
	switch op := p.peek(0).Text; op {
	case "-", "~", "!", "&", "*":
		p.next()
		return &Expr{Kind: Un, Op: op, Subs: []*Expr{p.unary()}}
	case "sizeof":
		return p.size()
	case "(":
		p.next()
		if p.typed() {
			e := &Expr{Kind: Cast, Type: p.typ()}
			p.want(")")
			e.Subs = []*Expr{p.unary()}
			return e
		}
		e := p.expr()
		p.want(")")
		return p.post(e)
	}
	return p.post(p.prime())
}

func (p *parser) size() *Expr {
	p.next()
	p.want("(")
	v := Var{Type: p.typ()}
	p.number(&v)
	p.want(")")
	return &Expr{Kind: Size, Type: v.Type, Array: v.Array, Num: v.Num}
}

func (p *parser) prime() *Expr {
	k := p.peek(0)
	e := &Expr{}
	switch k.Kind {
	case api.TokNum:
		e.Kind, e.Num, e.Type = Num, k.Num, p.numberType(k)
	case api.TokChar:
		e.Kind, e.Num, e.Type = Num, k.Num, Type{Base: "i32"}
	case api.TokName:
		e.Kind, e.Name = Name, k.Text
	default:
		p.lost()
	}
	p.next()
	return e
}

func (p *parser) post(e *Expr) *Expr {
	for {
		switch {
		case p.take("["):
			e = &Expr{Kind: Index, Subs: []*Expr{e, p.expr()}}
			p.want("]")
		case p.take("."):
			e = &Expr{Kind: Dot, Name: p.name(), Subs: []*Expr{e}}
		case p.take("->"):
			e = &Expr{Kind: Arrow, Name: p.name(), Subs: []*Expr{e}}
		case p.take("("):
			e = &Expr{Kind: Call, Subs: []*Expr{e}}
			if p.take(")") {
				continue
			}
			e.Subs = append(e.Subs, p.expr())
			for p.take(",") {
				e.Subs = append(e.Subs, p.expr())
			}
			p.want(")")
		default:
			return e
		}
	}
}

// numberType answers the first type that has a number; a number that none has is a fault.
func (p *parser) numberType(k api.Token) Type {
	tops := [4]uint64{1<<31 - 1, 1<<32 - 1, 1<<63 - 1, 1<<64 - 1}
	names := [4]string{"i32", "u32", "i64", "u64"}
	for i := range names {
		if k.Num <= tops[i] && mayHave(k, i) {
			return Type{Base: names[i]}
		}
	}
	p.fail(api.ErrLong, k.At)
	return Type{}
}

// mayHave tells whether a number told so may be of a type: 0 i32, 1 u32, 2 i64, 3 u64.
func mayHave(k api.Token, typ int) bool {
	switch k.Suffix {
	case "u":
		return typ == 1 || typ == 3
	case "l":
		return typ == 2 || k.Hex && typ == 3
	case "ul":
		return typ == 3
	}
	return k.Hex || typ == 0 || typ == 2
}
