// Package tree holds the tree of a program, and the parser that grows it: what syn shows and the layers behind it walk.
package tree

// Type is a type as it is told: a base (void, i8 to u64, S.NAME, T.NAME) and its stars.
type Type struct {
	Base  string
	Stars int
}

// Kinds of expressions.
const (
	Num   = 1
	Name  = 2
	Un    = 3
	Bin   = 4
	And   = 5
	Or    = 6
	Cond  = 7
	Set   = 8
	Index = 9
	Dot   = 10
	Arrow = 11
	Call  = 12
	Cast  = 13
	Size  = 14
)

// Expr is an expression. Op: of Un, Bin, Set; Name: of Name, Dot, Arrow; Type: of Num, Cast, Size; Num: of Num, and an array's in Size.
type Expr struct {
	Kind  int
	Op    string
	Name  string
	Type  Type
	Num   uint64
	Array bool
	Subs  []*Expr
}

// Kinds of statements.
const (
	Block    = 1
	Skip     = 2
	Let      = 3
	If       = 4
	While    = 5
	Do       = 6
	For      = 7
	Switch   = 8
	Case     = 9
	Default  = 10
	Break    = 11
	Continue = 12
	Return   = 13
	Goto     = 14
	Label    = 15
	Expand   = 16 // an expression as a statement
)

// Stmt is a statement. Exprs: of For three, of others one, nil where none was told; Body: what lies in it; Var: of Let; Name: of Goto, Label; Minus, Num: of Case.
type Stmt struct {
	Kind  int
	Var   Var
	Name  string
	Minus bool
	Num   uint64
	Exprs [3]*Expr
	Body  []*Stmt
}

// Var is a name with its type: a field, a parameter, a variable. Array tells whether a number was told.
type Var struct {
	Name  string
	Type  Type
	Array bool
	Num   uint64
}

// Kinds of items.
const (
	Struct  = 1
	Typedef = 2
	Proto   = 3
	Func    = 4
	Global  = 5
)

// Item is one of a program. Var: its name, and its type (of functions what they answer); Vars: fields, or parameters; Types: a typedef's parameters; Init, List: a variable's; Listed: whether { was told.
type Item struct {
	Kind, At int
	Var      Var
	Vars     []Var
	Types    []Type
	Body     *Stmt
	Init     *Expr
	List     []*Expr
	Listed   bool
}
