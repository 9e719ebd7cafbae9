package tree

import (
	"strconv"
	"strings"
)

// writer tells a tree; most is how deep its parentheses lay in one another.
type writer struct {
	b           strings.Builder
	depth, most int
	fresh       bool
}

// Text tells a type.
func (t Type) Text() string { return t.Base + strings.Repeat("*", t.Stars) }

// Dump tells items, each on a line of its own.
func Dump(items []*Item) string {
	w := &writer{fresh: true}
	for _, it := range items {
		w.item(it)
		w.b.WriteByte('\n')
		w.fresh = true
	}
	return w.b.String()
}

// Depth answers how many parentheses lie in one another in the dump, at most.
func Depth(items []*Item) int {
	w := &writer{fresh: true}
	for _, it := range items {
		w.item(it)
		w.b.Reset()
		w.fresh = true
	}
	return w.most
}

// part tells a part, with a blank ahead of it where one stands ahead.
func (w *writer) part(s string) {
	if !w.fresh {
		w.b.WriteByte(' ')
	}
	w.fresh = false
	w.b.WriteString(s)
}

func (w *writer) open(parts ...string) {
	w.part("(")
	w.fresh = true
	w.depth++
	w.most = max(w.most, w.depth)
	for _, s := range parts {
		w.part(s)
	}
}

func (w *writer) close() {
	w.b.WriteByte(')')
	w.fresh = false
	w.depth--
}

func (w *writer) item(it *Item) {
	typ, name := it.Var.Type.Text(), it.Var.Name
	switch it.Kind {
	case Struct:
		w.open("struct", name)
		for _, v := range it.Vars {
			w.open(v.Type.Text(), v.Name, decimal(v.Num))
			w.close()
		}
	case Typedef:
		w.open("typedef", typ, name)
		w.open()
		for _, t := range it.Types {
			w.part(t.Text())
		}
		w.close()
	case Proto:
		w.open("proto", typ, name)
		w.params(it.Vars)
	case Func:
		w.open("func", typ, name)
		w.params(it.Vars)
		w.stmt(it.Body)
	case Global:
		w.open("var", typ, name, decimal(it.Var.Num))
		w.initial(it)
	}
	w.close()
}

func (w *writer) params(vars []Var) {
	w.open()
	for _, v := range vars {
		w.open(v.Type.Text(), v.Name)
		w.close()
	}
	w.close()
}

func (w *writer) initial(it *Item) {
	if !it.Listed {
		w.expr(it.Init)
		return
	}
	w.open("list")
	w.exprs(it.List)
	w.close()
}

func decimal(n uint64) string { return strconv.FormatUint(n, 10) }

// head answers how a statement's kind is told.
func head(kind int) string {
	heads := [...]string{"", "block", "skip", "let", "if", "while", "do", "for", "switch", "case", "default", "break", "continue", "return", "goto", "label", "expr"}
	return heads[kind]
}

func (w *writer) stmt(s *Stmt) {
	w.open(head(s.Kind))
	switch s.Kind {
	case Block:
		w.stmts(s.Body)
	case Let:
		w.part(s.Var.Type.Text())
		w.part(s.Var.Name)
		w.part(decimal(s.Var.Num))
		w.expr(s.Exprs[0])
	case If:
		w.expr(s.Exprs[0])
		w.stmts(s.Body)
		if len(s.Body) == 1 {
			w.part("-")
		}
	case While, Switch:
		w.expr(s.Exprs[0])
		w.stmts(s.Body)
	case Do:
		w.stmts(s.Body)
		w.expr(s.Exprs[0])
	case For:
		for _, e := range s.Exprs {
			w.expr(e)
		}
		w.stmts(s.Body)
	case Case:
		if s.Minus && s.Num != 0 {
			w.part("-" + decimal(s.Num))
		} else {
			w.part(decimal(s.Num))
		}
	case Return, Expand:
		w.expr(s.Exprs[0])
	case Goto:
		w.part(s.Name)
	case Label:
		w.part(s.Name)
		w.stmts(s.Body)
	}
	w.close()
}

func (w *writer) stmts(list []*Stmt) {
	for _, s := range list {
		w.stmt(s)
	}
}

func (w *writer) exprs(list []*Expr) {
	for _, e := range list {
		w.expr(e)
	}
}

// expr tells an expression; - where there is none.
func (w *writer) expr(e *Expr) {
	if e == nil {
		w.part("-")
		return
	}
	switch e.Kind {
	case Num:
		w.open("num", e.Type.Text(), decimal(e.Num))
	case Name:
		w.open("name", e.Name)
	case Un:
		w.open("un", e.Op)
	case Bin:
		w.open("bin", e.Op)
	case And:
		w.open("and")
	case Or:
		w.open("or")
	case Cond:
		w.open("cond")
	case Set:
		w.open("set", e.Op)
	case Index:
		w.open("index")
	case Dot:
		w.open("dot")
	case Arrow:
		w.open("arrow")
	case Call:
		w.open("call")
	case Cast:
		w.open("cast", e.Type.Text())
	case Size:
		w.open("size", e.Type.Text(), decimal(e.Num))
	}
	w.exprs(e.Subs)
	if e.Kind == Dot || e.Kind == Arrow {
		w.part(e.Name)
	}
	w.close()
}
