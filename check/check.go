package check

import (
	"spokeshave/api"
	"spokeshave/shape"
	"spokeshave/tree"
)

// place is a name in a scope; scope 0 is the outermost one.
type place struct {
	scope int
	name  string
}

// faults are the kinds of errors that an item has.
type faults struct {
	name, flow, size, typ, konst bool
}

// checker goes over the items of a program.
type checker struct {
	types   types
	table   *shape.Table
	structs map[string]int
	aliases map[string]*Type
	syms    map[place]*Symbol
	scopes  []int
	made    int
	fns     []*Symbol
	faults  faults
	prog    *Program
	body    *body
}

// Text checks a text, and answers what was found in it.
func Text(s string) (*Program, api.Wrong) {
	items, wrong := tree.Parse(s)
	if wrong.Code != api.OK {
		return nil, wrong
	}
	c := newChecker()
	for _, it := range items {
		c.faults = faults{}
		c.item(it)
		if code := c.faults.first(); code != api.OK {
			return nil, api.Wrong{Code: code, At: it.At}
		}
	}
	if code := c.ends(); code != api.OK {
		return nil, api.Wrong{Code: code, At: len(s)}
	}
	return c.prog, api.Wrong{}
}

func newChecker() *checker {
	c := &checker{
		types:   types{made: map[typeKey]*Type{}},
		table:   shape.New(),
		structs: map[string]int{},
		aliases: map[string]*Type{},
		syms:    map[place]*Symbol{},
		scopes:  []int{0},
	}
	c.prog = &Program{checker: c}
	whole := c.types.integer(i32)
	c.builtin("getbyte", GetByte, c.types.function(whole, nil))
	c.builtin("putbyte", PutByte, c.types.function(c.types.void(), []*Type{whole}))
	c.builtin("exit", Exit, c.types.function(c.types.void(), []*Type{whole}))
	return c
}

func (c *checker) builtin(name string, which int, t *Type) {
	c.syms[place{0, name}] = &Symbol{Kind: Function, Name: name, Type: t, Global: true, Builtin: which}
}

// first answers the code that counts.
func (f faults) first() api.Errno {
	switch {
	case f.name:
		return api.ErrName
	case f.flow:
		return api.ErrFlow
	case f.size:
		return api.ErrConst
	case f.typ:
		return api.ErrType
	case f.konst:
		return api.ErrConst
	}
	return api.OK
}

// ends answers what is wrong behind the last item.
func (c *checker) ends() api.Errno {
	for _, f := range c.fns {
		if f.Def == nil {
			return api.ErrName
		}
	}
	main := c.syms[place{0, "main"}]
	if main == nil || main.Kind != Function || main.Type != c.types.function(c.types.integer(i32), nil) {
		return api.ErrMain
	}
	c.prog.Main = main.Index
	return api.OK
}

// find answers the symbol that a name has here, or nil.
func (c *checker) find(name string) *Symbol {
	for i := len(c.scopes) - 1; i >= 0; i-- {
		if s := c.syms[place{c.scopes[i], name}]; s != nil {
			return s
		}
	}
	return nil
}

func (c *checker) open() {
	c.made++
	c.scopes = append(c.scopes, c.made)
}

func (c *checker) close() { c.scopes = c.scopes[:len(c.scopes)-1] }

// declare makes a name in the innermost scope.
func (c *checker) declare(s *Symbol) {
	at := place{c.scopes[len(c.scopes)-1], s.Name}
	outer := c.syms[place{0, s.Name}]
	if c.syms[at] != nil || outer != nil && outer.Kind == Named {
		c.faults.name = true
		return
	}
	c.syms[at] = s
}

// resolve answers the type that is told; false, with its fault noted, if there is none.
func (c *checker) resolve(t tree.Type) (*Type, bool) {
	kind, name := shape.Base(t)
	var out *Type
	switch kind {
	case shape.Void:
		if t.Stars > 0 {
			c.faults.typ = true
			return nil, false
		}
		return c.types.void(), true
	case shape.Integer:
		out = c.types.integer(shape.Width(t.Base))
	case shape.Structure:
		known := c.table.Known(name)
		if known == nil && (t.Stars == 0 || c.structs[name] == 0) {
			c.faults.name = true
			return nil, false
		}
		out = c.types.make(Type{Kind: Struct, Name: name})
		out.known = known
	case shape.Typed:
		out = c.aliases[name]
	}
	if out == nil {
		c.faults.typ = true
		return nil, false
	}
	for range t.Stars {
		out = c.types.pointer(out)
	}
	return out, true
}

// scalar answers the type that is told, if it is an integer's or a pointer's.
func (c *checker) scalar(t tree.Type) *Type {
	out, ok := c.resolve(t)
	if !ok {
		return nil
	}
	if !out.Scalar() {
		c.faults.typ = true
		return nil
	}
	return out
}

// answer answers the type that is told, if a function may answer it.
func (c *checker) answer(t tree.Type) *Type {
	if t == (tree.Type{Base: "void"}) {
		return c.types.void()
	}
	return c.scalar(t)
}

// variable answers the type of a variable or a field.
func (c *checker) variable(v tree.Var) *Type {
	t, ok := c.resolve(v.Type)
	if v.Array && (v.Num == 0 || v.Num > api.MaxArray) {
		c.faults.size = true
	}
	if !ok {
		return nil
	}
	if t.Kind == Void || t.Kind == Func {
		c.faults.typ = true
		return nil
	}
	if v.Array {
		t = c.types.array(t, int(min(v.Num, api.MaxArray)))
	}
	if t.Size() > api.MaxBytes {
		c.faults.size = true
	}
	return t
}
