package check

import (
	"spokeshave/api"
	"spokeshave/tree"
	"spokeshave/word"
)

// Sub answers the operation of words that an operation of two is; > and >= are told by swap.
func Sub(op string) (sub int, swap bool) {
	switch op {
	case "+":
		return api.Add, false
	case "-":
		return api.Sub, false
	case "*":
		return api.Mul, false
	case "/":
		return api.Div, false
	case "%":
		return api.Mod, false
	case "&":
		return api.And, false
	case "|":
		return api.Or, false
	case "^":
		return api.Xor, false
	case "<<":
		return api.Shl, false
	case ">>":
		return api.Shr, false
	case "==":
		return api.Eq, false
	case "!=":
		return api.Ne, false
	case "<":
		return api.Lt, false
	case "<=":
		return api.Le, false
	case ">":
		return api.Lt, true
	}
	return api.Le, true
}

// Reckon does an operation of two integers in the type it is reckoned in.
func Reckon(op string, w api.Width, a int64, b int64) (int64, bool) {
	sub, swap := Sub(op)
	if swap {
		a, b = b, a
	}
	return word.Binary(w, sub, a, b)
}

// constant answers what a node comes to in a type; false, if it is no constant.
func constant(t *Type, n *Node) (int64, bool) {
	if !numbers(n) {
		return 0, false
	}
	v, ok := reckon(n)
	if !ok {
		return 0, false
	}
	return word.Wrap(t.Width, v), true
}

// numbers tells whether a node is made of what constants may be made of.
func numbers(n *Node) bool {
	switch n.Kind {
	case tree.Num, tree.Size, tree.Bin, tree.And, tree.Or, tree.Cond, tree.Cast:
	case tree.Un:
		if n.Op != "-" && n.Op != "~" && n.Op != "!" {
			return false
		}
	default:
		return false
	}
	for _, s := range n.Subs {
		if !numbers(s) {
			return false
		}
	}
	return true
}

// reckon answers a constant's value; false, if what is reached of it is undefined.
func reckon(n *Node) (int64, bool) {
	if n.Kind == tree.Num || n.Kind == tree.Size {
		return n.N, true
	}
	a, ok := reckon(n.Subs[0])
	if !ok {
		return 0, false
	}
	switch n.Kind {
	case tree.Un:
		return reckonUnary(n, a)
	case tree.Cast:
		return word.Wrap(n.Type.Width, a), true
	case tree.And, tree.Or:
		if (a != 0) == (n.Kind == tree.Or) {
			return truth(a != 0), true
		}
		b, ok := reckon(n.Subs[1])
		return truth(ok && b != 0), ok
	case tree.Cond:
		part := n.Subs[1]
		if a == 0 {
			part = n.Subs[2]
		}
		b, ok := reckon(part)
		return word.Wrap(n.Type.Width, b), ok
	}
	b, ok := reckon(n.Subs[1])
	if !ok {
		return 0, false
	}
	return Reckon(n.Op, n.Work.Width, a, b)
}

func reckonUnary(n *Node, a int64) (int64, bool) {
	w := n.Type.Width
	switch n.Op {
	case "-":
		return word.Negate(w, a)
	case "~":
		return word.Invert(w, a), true
	}
	return truth(a == 0), true
}

func truth(is bool) int64 {
	if is {
		return 1
	}
	return 0
}
