// Package shape tells how large the types of a program are, for layout and for the layers that keep values in places.
package shape

import (
	"spokeshave/api"
	"spokeshave/tree"
)

// MostBytes is the greatest size that is told.
const MostBytes = 1<<31 - 1

// Field is a part of a struct; Size is all of it, an array's too.
type Field struct {
	Var      tree.Var
	At, Size int
}

// Struct is a struct that is known.
type Struct struct {
	Name        string
	Size, Align int
	Fields      []Field
}

// Table holds the structs and typedefs that are known so far.
type Table struct {
	structs  map[string]*Struct
	typedefs map[string]*tree.Item
	order    []*Struct
}

// New answers a table that knows nothing.
func New() *Table {
	return &Table{structs: map[string]*Struct{}, typedefs: map[string]*tree.Item{}}
}

// Known answers the struct of a name, or nil.
func (t *Table) Known(name string) *Struct { return t.structs[name] }

// Order answers the structs that are known, in their items' order.
func (t *Table) Order() []*Struct { return t.order }

// Add makes what an item makes known; the first of a name stays.
func (t *Table) Add(it *tree.Item) {
	name := it.Var.Name
	switch it.Kind {
	case tree.Typedef:
		if t.typedefs[name] == nil {
			t.typedefs[name] = it
		}
	case tree.Struct:
		if t.structs[name] != nil {
			return
		}
		if s := t.place(it); s != nil {
			t.structs[name] = s
			t.order = append(t.order, s)
		}
	}
}

// place lays a struct's fields out; nil, if one has no size, or it is too large.
func (t *Table) place(it *tree.Item) *Struct {
	s := &Struct{Name: it.Var.Name, Align: 1}
	for _, v := range it.Vars {
		size, align := t.size(v.Type)
		if size == 0 || v.Array && (v.Num == 0 || v.Num > api.MaxArray) {
			return nil
		}
		if v.Array {
			size *= int(v.Num)
		}
		at := upwards(s.Size, align)
		s.Fields = append(s.Fields, Field{Var: v, At: at, Size: size})
		s.Size = at + size
		s.Align = max(s.Align, align)
	}
	s.Size = upwards(s.Size, s.Align)
	if s.Size > MostBytes {
		return nil
	}
	return s
}

// Size answers a type's size; 0, if it has none.
func (t *Table) Size(typ tree.Type) int {
	size, _ := t.size(typ)
	return size
}

func (t *Table) size(typ tree.Type) (int, int) {
	kind, name := Base(typ)
	switch {
	case typ.Stars > 0:
		if kind == Void || kind == Typed && t.typedefs[name] == nil || kind == None {
			return 0, 0
		}
		return 8, 8
	case kind == Integer:
		n := Width(typ.Base).Bits / 8
		return n, n
	case kind == Structure && t.structs[name] != nil:
		s := t.structs[name]
		return s.Size, s.Align
	}
	return 0, 0
}

// Kinds of bases.
const (
	None      = 0
	Integer   = 1
	Void      = 2
	Structure = 3
	Typed     = 4
)

// Base answers what kind of base a type has, and the name in it.
func Base(typ tree.Type) (int, string) {
	b := typ.Base
	switch {
	case b == "void":
		return Void, ""
	case Width(b).Bits > 0:
		return Integer, ""
	case len(b) > 2 && b[:2] == "S.":
		return Structure, b[2:]
	case len(b) > 2 && b[:2] == "T.":
		return Typed, b[2:]
	}
	return None, ""
}

// Width answers the width of an integer type's name; zero, if it is none.
func Width(name string) api.Width {
	switch name {
	case "i8":
		return api.Width{Bits: 8, Signed: true}
	case "i16":
		return api.Width{Bits: 16, Signed: true}
	case "i32":
		return api.Width{Bits: 32, Signed: true}
	case "i64":
		return api.Width{Bits: 64, Signed: true}
	case "u8":
		return api.Width{Bits: 8}
	case "u16":
		return api.Width{Bits: 16}
	case "u32":
		return api.Width{Bits: 32}
	case "u64":
		return api.Width{Bits: 64}
	}
	return api.Width{}
}

func upwards(n int, align int) int { return (n + align - 1) / align * align }
