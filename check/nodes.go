package check

import (
	"spokeshave/shape"
	"spokeshave/tree"
)

// Node is an expression with its type. Its Kind, Op and Subs are the tree's.
// Work: the type that a Bin, a Set with an operation is reckoned in; N: of Num, Size; At: where a Dot's, an Arrow's field lies.
type Node struct {
	Kind int
	Op   string
	Type *Type
	Work *Type
	N    int64
	At   int
	Sym  *Symbol
	Subs []*Node
}

// Kinds of symbols.
const (
	Variable = 1
	Function = 2
	Named    = 3 // a typedef
)

// Functions that are known ahead.
const (
	GetByte = 1
	PutByte = 2
	Exit    = 3
)

// Symbol is a name that was made. Index: among globals, functions that are defined, or a function's variables; Builtin: which one that is known ahead; Placed: an & asks its place.
type Symbol struct {
	Kind    int
	Name    string
	Type    *Type
	Global  bool
	Param   bool
	Placed  bool
	Builtin int
	Index   int
	Def     *Fn
}

// Stmt is a statement with its expressions' types. Sym: of Let; N: of Case, in the switch's promoted type; Work: of Switch that type.
type Stmt struct {
	Kind  int
	Name  string
	Sym   *Symbol
	N     int64
	Work  *Type
	Exprs [3]*Node
	Body  []*Stmt
}

// Fn is a function that is defined. Vars: its parameters, then its lets, in order.
type Fn struct {
	Sym    *Symbol
	Params int
	Vars   []*Symbol
	Body   *Stmt
}

// Piece is what stands at a place of a global: a number, or, with Func, a function.
type Piece struct {
	At   int
	Type *Type
	N    int64
	Func *Symbol
}

// Global is a variable with what stands in it ahead of all.
type Global struct {
	Sym    *Symbol
	Pieces []Piece
}

// Program is all that was found.
type Program struct {
	Globals []*Global
	Fns     []*Fn
	Main    int
	Roots   []*Node
	checker *checker
}

// Field answers a struct's field at a place: its type and where in it that place lies.
func (p *Program) Field(t *Type, at int) (*Type, int, bool) {
	if t.known == nil {
		return nil, 0, false
	}
	if t.fields == nil {
		for i := range t.known.Fields {
			t.fields = append(t.fields, p.checker.fieldType(&t.known.Fields[i]))
		}
	}
	for i := range t.known.Fields {
		f := &t.known.Fields[i]
		if at >= f.At && at < f.At+f.Size {
			return t.fields[i], at - f.At, true
		}
	}
	return nil, 0, false
}

// Pointer answers the type of pointers to t.
func (p *Program) Pointer(t *Type) *Type { return p.checker.types.pointer(t) }

// fieldType answers a field's type; the struct is known, so that it has one.
func (c *checker) fieldType(f *shape.Field) *Type {
	t, _ := c.resolve(f.Var.Type)
	if f.Var.Array {
		t = c.types.array(t, int(f.Var.Num))
	}
	return t
}

// Value answers the type of a node's value: an array's is a pointer to its first part, a function's a pointer to it.
func (c *checker) value(n *Node) *Type {
	if n == nil || n.Type == nil {
		return nil
	}
	switch n.Type.Kind {
	case Array:
		return c.types.pointer(n.Type.To)
	case Func:
		return c.types.pointer(n.Type)
	}
	return n.Type
}

// Value answers the type of a node's value.
func (p *Program) Value(n *Node) *Type { return p.checker.value(n) }

// zero tells whether a node is the number 0 that may stand for a pointer.
func zero(n *Node) bool {
	return n.Kind == tree.Num && n.N == 0 && n.Type != nil && n.Type.Width == i32
}

// placed tells whether a node has a place.
func placed(n *Node) bool {
	switch n.Kind {
	case tree.Name:
		return n.Sym != nil && n.Sym.Kind == Variable
	case tree.Un:
		return n.Op == "*" && n.Type.Kind != Func
	}
	return n.Kind == tree.Index || n.Kind == tree.Dot || n.Kind == tree.Arrow
}
