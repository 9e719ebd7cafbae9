package tree

import (
	"spokeshave/api"
	"spokeshave/lex"
)

// parser goes over tokens. Behind the first fault it stands at the end, so that every loop of it ends.
type parser struct {
	toks  []api.Token
	at    int
	end   int
	types map[string]int
	wrong api.Wrong
}

// Parse answers a program's items, or where it is wrong.
func Parse(s string) ([]*Item, api.Wrong) {
	toks, wrong := lex.Tokens(s)
	if wrong.Code != api.OK {
		return nil, wrong
	}
	p := parser{toks: toks, end: len(s), types: map[string]int{}}
	var items []*Item
	for p.at < len(p.toks) {
		items = append(items, p.item())
	}
	if p.wrong.Code != api.OK {
		return nil, p.wrong
	}
	if Depth(items) > api.MaxDepth {
		return nil, api.Wrong{Code: api.ErrDeep}
	}
	return items, api.Wrong{}
}

// peek answers the token so many on; an empty one behind the end.
func (p *parser) peek(on int) api.Token {
	if p.at+on < len(p.toks) {
		return p.toks[p.at+on]
	}
	return api.Token{At: p.end}
}

// next goes over a token.
func (p *parser) next() api.Token {
	k := p.peek(0)
	if p.at < len(p.toks) {
		p.at++
	}
	return k
}

// fail keeps the first fault.
func (p *parser) fail(code api.Errno, at int) {
	if p.wrong.Code == api.OK {
		p.wrong = api.Wrong{Code: code, At: at}
	}
	p.at = len(p.toks)
}

// lost is a fault at the token that is next.
func (p *parser) lost() { p.fail(api.ErrSyntax, p.peek(0).At) }

func (p *parser) is(text string) bool { return p.peek(0).Text == text }

// take goes over a token of that text, if it is next.
func (p *parser) take(text string) bool {
	if !p.is(text) {
		return false
	}
	p.next()
	return true
}

func (p *parser) want(text string) {
	if !p.take(text) {
		p.lost()
	}
}

func (p *parser) name() string {
	if p.peek(0).Kind != api.TokName {
		p.lost()
		return ""
	}
	return p.next().Text
}

// typed tells whether a type begins here.
func (p *parser) typed() bool {
	k := p.peek(0)
	switch k.Text {
	case "void", "char", "short", "int", "long", "unsigned", "struct":
		return true
	}
	return k.Kind == api.TokName && p.types[k.Text] != 0
}

func (p *parser) typ() Type {
	if !p.typed() {
		p.lost()
		return Type{}
	}
	t := Type{Base: p.base()}
	for p.take("*") {
		t.Stars++
	}
	return t
}

func (p *parser) base() string {
	k := p.next()
	switch k.Text {
	case "void":
		return "void"
	case "struct":
		return "S." + p.name()
	case "unsigned":
		if bits := bits(p.peek(0).Text); bits != "" {
			p.next()
			return "u" + bits
		}
		return "u32"
	}
	if bits := bits(k.Text); bits != "" {
		return "i" + bits
	}
	return "T." + k.Text
}

func bits(word string) string {
	switch word {
	case "char":
		return "8"
	case "short":
		return "16"
	case "int":
		return "32"
	case "long":
		return "64"
	}
	return ""
}

func (p *parser) item() *Item {
	it := &Item{At: p.peek(0).At}
	switch {
	case p.is("struct") && p.peek(1).Kind == api.TokName && p.peek(2).Text == "{":
		p.structure(it)
	case p.is("typedef"):
		p.typedef(it)
	default:
		p.declaration(it)
	}
	return it
}

func (p *parser) structure(it *Item) {
	it.Kind = Struct
	p.next()
	it.Var.Name = p.name()
	p.want("{")
	for {
		v := Var{Type: p.typ()}
		v.Name = p.name()
		p.number(&v)
		p.want(";")
		it.Vars = append(it.Vars, v)
		if p.take("}") {
			break
		}
		if !p.typed() {
			p.lost()
			return
		}
	}
	p.want(";")
}

// number reads an array's number, if one is told.
func (p *parser) number(v *Var) {
	if !p.take("[") {
		return
	}
	k := p.peek(0)
	if k.Kind != api.TokNum || k.Suffix != "" {
		p.lost()
		return
	}
	p.next()
	v.Array, v.Num = true, k.Num
	p.want("]")
}

func (p *parser) typedef(it *Item) {
	it.Kind = Typedef
	p.next()
	it.Var.Type = p.typ()
	it.Var.Name = p.name()
	p.want("(")
	if !p.take(")") {
		it.Types = append(it.Types, p.typ())
		for p.take(",") {
			it.Types = append(it.Types, p.typ())
		}
		p.want(")")
	}
	p.want(";")
	p.types[it.Var.Name] = 1
}

func (p *parser) declaration(it *Item) {
	it.Var.Type = p.typ()
	it.Var.Name = p.name()
	if p.is("(") {
		p.function(it)
		return
	}
	it.Kind = Global
	p.number(&it.Var)
	if p.take("=") {
		p.initial(it)
	}
	p.want(";")
}

func (p *parser) function(it *Item) {
	it.Kind = Proto
	p.next()
	if !p.take(")") {
		it.Vars = append(it.Vars, p.param())
		for p.take(",") {
			it.Vars = append(it.Vars, p.param())
		}
		p.want(")")
	}
	if p.take(";") {
		return
	}
	it.Kind = Func
	if !p.is("{") {
		p.lost()
		return
	}
	it.Body = p.block()
}

func (p *parser) param() Var {
	v := Var{Type: p.typ()}
	v.Name = p.name()
	return v
}

func (p *parser) initial(it *Item) {
	if !p.take("{") {
		it.Init = p.cond()
		return
	}
	it.Listed = true
	it.List = append(it.List, p.cond())
	for p.take(",") {
		it.List = append(it.List, p.cond())
	}
	p.want("}")
}
