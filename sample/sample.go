// Package sample makes programs for the tests of other packages: some that are written out, and as many as are asked for that grow from a seed.
package sample

import (
	"strconv"
	"strings"
)

// grower makes a program. fns: how many functions are made; loops: how many loops lie around; self: the function that is made, if it calls itself.
type grower struct {
	b      strings.Builder
	seed   uint64
	fns    int
	loops  int
	labels int
	self   int
}

// Program answers a program that grows from a seed. It is well typed, and mostly comes to its end.
func Program(seed int) string {
	g := &grower{seed: uint64(seed)*2862933555777941757 + 3037000493, self: -1}
	g.b.WriteString("typedef int F(int, int);\nstruct N { int v; unsigned char c; struct N *n; int a[4]; F *f; };\n")
	g.b.WriteString("int g0 = 3; unsigned g1 = 7u; char g2 = -2; long g3; unsigned short g4; unsigned long g5 = 9ul;\nint ga[8] = {1, 2, 3}; unsigned char gb[8]; struct N gn; struct N gs[4]; int *gp; F *gf; F *gt[4];\n")
	g.b.WriteString("typedef F *P(F *, int); F *sel(F *a, int k) { return k & 1 ? a : gt[k & 3]; } P *gsel = sel;\n")
	g.b.WriteString("int nop(int x, int y) { return x; }\nint add(int x, int y) { return (x & 1023) + (y & 1023); }\nint count(int x, int y) { if (x <= 0) return y & 255; return count(x - 1, y + 1); }\n")
	count := 1 + g.pick(4)
	for range count {
		g.function()
	}
	g.b.WriteString("int main() {\ngp = &ga[2]; gf = " + g.named() + "; gn.n = &gs[1]; gs[1].n = &gs[2]; gs[2].n = &gn; gt[0] = add; gt[1] = " + g.named() + "; gt[2] = nop; gt[3] = gf; gn.f = gt[" + g.number(4) + "];\n")
	g.body(4 + g.pick(5))
	g.b.WriteString("putbyte(g0); putbyte(g1); putbyte(g2); putbyte(ga[1] + gb[2]); return " + g.expr(2) + ";\n}\n")
	return g.b.String()
}

// pick answers a number below n.
func (g *grower) pick(n int) int {
	g.seed = g.seed*6364136223846793005 + 1442695040888963407
	return int(g.seed>>33) % n
}

func (g *grower) number(n int) string { return strconv.Itoa(g.pick(n)) }

// one answers one of several texts.
func (g *grower) one(texts ...string) string { return texts[g.pick(len(texts))] }

// named answers a function that is made already.
func (g *grower) named() string {
	k := g.pick(g.fns + 3)
	switch k {
	case 0:
		return "add"
	case 1:
		return "nop"
	case 2:
		return "count"
	}
	return "f" + strconv.Itoa(k-3)
}

func (g *grower) function() {
	g.b.WriteString("int f" + strconv.Itoa(g.fns) + "(int x, int y) {\n")
	if g.pick(3) == 0 {
		g.b.WriteString("if (x <= 0) return y;\n")
		g.self = g.fns
	}
	g.body(2 + g.pick(4))
	switch g.pick(4) {
	case 0:
		g.b.WriteString("return " + g.named() + "(" + g.small() + ", " + g.expr(1) + ");\n}\n")
	case 1:
		if g.self >= 0 {
			g.b.WriteString("return f" + strconv.Itoa(g.fns) + "((x & 7) - 1, " + g.expr(1) + ");\n}\n")
			break
		}
		g.b.WriteString("return gf ? gf(" + g.small() + ", y & 63) : 3;\n}\n")
	default:
		g.b.WriteString("return " + g.expr(2) + ";\n}\n")
	}
	g.fns++
	g.self = -1
}

// body writes the locals and statements of a function.
func (g *grower) body(n int) {
	g.b.WriteString("int l0 = " + g.number(50) + "; unsigned l1 = " + g.number(999) + "u; int l2 = 1; long l3 = 5; char l4 = 'a'; int la[4]; struct N ln; int *lp; struct N *lq; F *lf; int k0; int k1; int k2;\n")
	g.b.WriteString("la[0] = 1; la[1] = 2; la[2] = l0; la[3] = 4; ln.v = 1; ln.c = 200; ln.n = &gn; lp = " + g.one("&l2", "la", "&ga[3]", "&ln.v") + "; lq = " + g.one("&ln", "&gn", "gs") + "; lf = " + g.named() + ";\n")
	for range n {
		g.stmt(3)
	}
}

// small answers an expression whose value is from 0 to 7.
func (g *grower) small() string { return "(" + g.expr(1) + " & 7)" }

// at answers an index below a power of two.
func (g *grower) at(n int) string {
	return g.one(g.number(n), "("+g.expr(1)+" & "+strconv.Itoa(n-1)+")")
}

// place answers what may be written.
func (g *grower) place() string {
	return g.one("g0", "g1", "g2", "g3", "g4", "g5", "l0", "l0", "l1", "l2", "l3", "l4", "la["+g.at(4)+"]", "ga["+g.at(8)+"]", "gb["+g.at(8)+"]", "ln.v", "ln.c", "lq->c", "gn.v", "gs["+g.at(4)+"].v", "gn.n->v", "*lp", "gn.n->n->a["+g.at(4)+"]")
}

// expr answers an expression of an integer. What may be too great is cut off first.
func (g *grower) expr(depth int) string {
	if depth == 0 {
		return g.one(g.number(100), g.number(9), "l0", "l1", "l2", "l3", "l4", "g0", "g1", "g2", "g3", "g4", "(int)g5", "la["+g.number(4)+"]", "ga["+g.number(8)+"]", "*lp", "ln.c", "'z'", "0xffu", "-1", "sizeof(struct N)", "gn.n->v")
	}
	a, b := g.expr(depth-1), g.expr(depth-1)
	low := "(" + a + " & 4095)"
	switch g.pick(17) {
	case 0, 1:
		return "(" + low + " " + g.one("+", "-", "*") + " (" + b + " & 255))"
	case 2:
		return "((unsigned)" + a + " " + g.one("+", "-", "*", "|", "^", "&") + " " + b + ")"
	case 3:
		return "(" + low + " " + g.one("/", "%") + " ((" + b + " & 15) + 1))"
	case 4:
		return "(" + low + " << (" + b + " & 7))"
	case 5:
		return "(" + a + " >> (" + b + " & 7))"
	case 6:
		return "(" + a + " " + g.one("<", "<=", ">", ">=", "==", "!=") + " " + b + ")"
	case 7:
		return "(" + a + " " + g.one("&&", "||") + " " + b + ")"
	case 8:
		return "(" + a + " ? " + b + " : " + g.expr(depth-1) + ")"
	case 9:
		return g.one("!", "~", "- -") + "(" + low + ")"
	case 10:
		return "(" + g.one("char", "unsigned char", "short", "unsigned", "long", "int", "unsigned short") + ")" + a
	case 11:
		return "(" + g.one("l0", "l2", "g0", "l1") + " = " + low + ")"
	case 12:
		return "(" + g.one("l1", "g1", "g4", "g5", "l4") + " " + g.one("+=", "^=", "|=", "&=") + " " + low + ")"
	case 13:
		return "(lp " + g.one("==", "!=") + " " + g.one("gp", "lp", "0", "&g0") + ")"
	case 14:
		return g.called(depth - 1)
	case 15:
		return "(&ga[" + g.at(8) + "] - ga)"
	}
	return "(" + a + " " + g.one("^", "&", "|") + " " + b + ")"
}

// called answers a call.
func (g *grower) called(depth int) string {
	if g.loops > 1 || g.self >= 0 {
		return "g0"
	}
	args := "(" + g.small() + ", " + g.expr(depth) + ")"
	return g.one(g.named(), g.named(), "(*"+g.named()+")", "lf", "gf", "gt["+g.at(4)+"]", "(l0 ? lf : "+g.named()+")", "(gf ? gf : add)", "sel("+g.named()+", "+g.number(4)+")", "gsel(lf, l0 & 7)") + args
}

func (g *grower) stmt(depth int) {
	k := g.pick(15)
	if depth == 0 {
		k = g.pick(6)
	}
	w := g.b.WriteString
	switch k {
	case 0, 1, 2:
		w(g.place() + " = " + g.expr(2) + ";\n")
	case 3:
		w(g.one("g1", "l1", "g5", "gb["+g.at(8)+"]") + " " + g.one("+=", "-=", "*=", "^=", "|=", "&=") + " " + g.expr(1) + ";\n")
	case 4:
		w("putbyte(" + g.expr(1) + ");\n")
	case 5:
		w(g.one("lp = &la["+g.at(4)+"];", "lp = &ga[1] + "+g.number(4)+";", "lq = lq->n ? &gs[1] : &gn;", "lf = "+g.named()+";", "gt["+g.at(4)+"] = lf;", "{ int l0 = l2; l2 = l0 & 77; }", "l4 = getbyte();", ";", "lp = gp;", "gp = &ga[4];") + "\n")
	case 6, 7:
		w("if (" + g.expr(2) + ") {\n")
		g.stmts(depth - 1)
		if g.pick(2) == 0 {
			w("} else {\n")
			g.stmts(depth - 1)
		}
		w("}\n")
	case 8, 9:
		g.loop(depth)
	case 10:
		w("switch (" + g.expr(1) + " & 3) {\ncase 0:\n")
		g.stmt(depth - 1)
		w(g.one("break;\n", "") + "case 1:\ncase -2:\n")
		g.stmt(depth - 1)
		w(g.one("break;\n", "") + g.one("default:\n", "case 3:\n"))
		g.stmt(depth - 1)
		w("}\n")
	case 11:
		g.labels++
		l := "q" + strconv.Itoa(g.labels)
		w("if (" + g.expr(1) + ") goto " + l + ";\n")
		g.stmt(depth - 1)
		w(l + ": " + g.one(";", "g0 = 1;") + "\n")
	case 12:
		w(g.called(1) + ";\n")
	default:
		w(g.place() + " = " + g.called(1) + ";\n")
	}
}

func (g *grower) stmts(depth int) {
	for range 1 + g.pick(2) {
		g.stmt(depth)
	}
}

// loop writes a loop that ends, now and then by gotos, or one that a goto leads into; each depth of loops has its own counter.
func (g *grower) loop(depth int) {
	if g.loops == 3 {
		g.stmt(0)
		return
	}
	k := "k" + strconv.Itoa(g.loops)
	n := strconv.Itoa(1 + g.pick(5))
	g.loops++
	w := g.b.WriteString
	switch g.pick(5) {
	case 3:
		g.labels++
		l := "q" + strconv.Itoa(g.labels)
		w(k + " = " + n + "; " + l + ":;\n")
		g.stmts(depth - 1)
		w("if ((" + k + " -= 1) > 0) goto " + l + ";\n")
	case 4:
		g.labels++
		l := "q" + strconv.Itoa(g.labels)
		w(k + " = " + n + "; goto " + l + "; while (" + k + ") {\n" + k + " -= 1;\n")
		g.stmts(depth - 1)
		w(l + ":;\n")
		g.stmts(depth - 1)
		w("}\n")
	case 0:
		w("for (" + k + " = 0; " + k + " < " + n + "; " + k + " += 1) {\n")
		g.stmts(depth - 1)
		w("if (" + g.expr(1) + ") " + g.one("continue", "break") + ";\n")
		g.stmts(depth - 1)
		w("}\n")
	case 1:
		w(k + " = " + n + "; while (" + k + ") {\n" + k + " -= 1;\n")
		g.stmts(depth - 1)
		w("}\n")
	case 2:
		w(k + " = 0; do {\n")
		g.stmts(depth - 1)
		w("} while ((" + k + " += 1) < " + n + ");\n")
	}
	g.loops--
}
