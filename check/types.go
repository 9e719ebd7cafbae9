// Package check finds a program's names and types, and grows the tree in which each expression has its type.
package check

import (
	"strconv"
	"strings"

	"spokeshave/api"
	"spokeshave/shape"
	"spokeshave/word"
)

// Kinds of types.
const (
	Void    = 1
	Int     = 2
	Pointer = 3
	Array   = 4
	Struct  = 5
	Func    = 6
)

// Type is a type; there is just one of each, so that types alike are the same pointer.
// To: what a pointer points to, an array's part, what a function answers.
// Code is a short text that no two types have in common.
type Type struct {
	ID     int
	Code   string
	Kind   int
	Width  api.Width
	To     *Type
	Num    int
	Name   string
	Params []*Type
	known  *shape.Struct
	fields []*Type
}

// typeKey is what two types that are alike have in common.
type typeKey struct {
	kind   int
	width  api.Width
	to     int
	num    int
	name   string
	count  int
	params [api.MaxParams]int
}

// types makes each type once.
type types struct {
	made map[typeKey]*Type
}

func (ts *types) make(t Type) *Type {
	k := typeKey{kind: t.Kind, width: t.Width, num: t.Num, name: t.Name, count: len(t.Params)}
	if t.To != nil {
		k.to = t.To.ID
	}
	for i, p := range t.Params {
		k.params[i] = p.ID
	}
	if old := ts.made[k]; old != nil {
		return old
	}
	t.ID = len(ts.made) + 1
	t.Code = strconv.Itoa(t.ID)
	ts.made[k] = &t
	return &t
}

func (ts *types) integer(w api.Width) *Type { return ts.make(Type{Kind: Int, Width: w}) }

func (ts *types) void() *Type { return ts.make(Type{Kind: Void}) }

func (ts *types) pointer(to *Type) *Type { return ts.make(Type{Kind: Pointer, To: to}) }

func (ts *types) array(part *Type, num int) *Type {
	return ts.make(Type{Kind: Array, To: part, Num: num})
}

func (ts *types) function(answer *Type, params []*Type) *Type {
	return ts.make(Type{Kind: Func, To: answer, Params: params})
}

var (
	i32 = api.Width{Bits: 32, Signed: true}
	i64 = api.Width{Bits: 64, Signed: true}
	u64 = api.Width{Bits: 64}
)

// Size answers how many bytes a value of a type has; 0, if it has none.
func (t *Type) Size() int {
	switch t.Kind {
	case Int:
		return t.Width.Bits / 8
	case Pointer:
		return 8
	case Array:
		return t.Num * t.To.Size()
	case Struct:
		if t.known != nil {
			return t.known.Size
		}
	}
	return 0
}

// Scalar tells whether a type is an integer's or a pointer's.
func (t *Type) Scalar() bool { return t.Kind == Int || t.Kind == Pointer }

// walks tells whether a pointer of this type may be moved.
func (t *Type) walks() bool { return t.Kind == Pointer && t.To.Size() > 0 }

// Text tells a type.
func (t *Type) Text() string {
	switch t.Kind {
	case Void:
		return "void"
	case Int:
		return word.Text(t.Width)
	case Pointer:
		return t.To.Text() + "*"
	case Array:
		return "[" + strconv.Itoa(t.Num) + "]" + t.To.Text()
	case Struct:
		return "S." + t.Name
	}
	var params []string
	for _, p := range t.Params {
		params = append(params, p.Text())
	}
	return "fn(" + strings.Join(params, ",") + ")" + t.To.Text()
}
