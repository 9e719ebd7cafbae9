package sample

import "strconv"

// shape is a function that is made: what it answers and takes. Types are numbered: 0 is void, then the integers, last a pointer to int.
type shape struct {
	answer int
	params []int
	turns  bool
}

const far = 9

func typeName(t int) string {
	names := [...]string{"void", "char", "unsigned char", "short", "unsigned short", "int", "unsigned", "long", "unsigned long", "int *"}
	return names[t]
}

// typed makes a program of functions of many types.
type typed struct {
	grower
	made  []shape
	now   shape
	calls int
}

// Typed answers a program that grows from a seed, whose functions take and answer values of all types, and call one another and themselves at their ends.
func Typed(seed int) string {
	g := &typed{grower: grower{seed: uint64(seed)*2862933555777941757 + 99, self: -1}}
	g.b.WriteString("int ga[8] = {5, 4, 3, 2, 1}; long gl = 77; unsigned char gc = 250; short gs = -3; int fuel = 300;\n")
	count := 2 + g.pick(6)
	for k := range count {
		g.define(k)
	}
	g.now = shape{answer: 5}
	g.b.WriteString("int main() {\nlong v0 = 3; char v1 = -7; int *v2 = ga + 2;\n")
	for range 6 {
		g.b.WriteString(g.line())
	}
	g.b.WriteString("putbyte(ga[0] + ga[3]); putbyte(gl); putbyte(gc); return gs & 127;\n}\n")
	return g.b.String()
}

// define makes a function. One that turns calls itself at its end, with its first parameter going down.
func (g *typed) define(k int) {
	s := shape{answer: g.pick(10)}
	for range g.pick(7) {
		s.params = append(s.params, 1+g.pick(9))
	}
	s.turns = len(s.params) > 0 && s.params[0] != far && g.pick(3) == 0
	if s.turns {
		s.params[0] = 5
	}
	g.now = s
	g.b.WriteString(typeName(s.answer) + " f" + strconv.Itoa(k) + "(")
	for n, t := range s.params {
		if n > 0 {
			g.b.WriteString(", ")
		}
		g.b.WriteString(typeName(t) + " p" + strconv.Itoa(n))
	}
	g.b.WriteString(") {\nlong v0 = " + g.number(99) + "; char v1 = " + g.number(200) + "; int *v2 = &ga[" + g.number(8) + "];\n")
	end := "return " + g.of(s.answer, 2) + ";\n"
	if s.answer == 0 {
		end = "return;\n"
	}
	if s.turns {
		g.b.WriteString("fuel -= 1; if (fuel < 0 || p0 <= 0) " + end)
	}
	for range g.pick(4) {
		g.b.WriteString(g.line())
	}
	g.b.WriteString(g.last(k, s, end) + "}\n")
	g.made = append(g.made, s)
}

// last answers how a function ends.
func (g *typed) last(k int, s shape, end string) string {
	if !s.turns {
		return end
	}
	call := "f" + strconv.Itoa(k) + "((p0 & 15) - 1"
	for _, t := range s.params[1:] {
		call += ", " + g.of(t, 1)
	}
	if s.answer == 0 {
		return call + ");\n" + g.one("return;\n", "")
	}
	return "return " + call + ");\n"
}

// line answers a statement.
func (g *typed) line() string {
	switch g.pick(6) {
	case 0:
		return "v0 = " + g.of(7, 2) + ";\n"
	case 1:
		return "v1 = " + g.of(1, 2) + ";\n"
	case 2:
		return "v2 = " + g.of(far, 1) + ";\n"
	case 3:
		return "*v2 = " + g.of(5, 2) + ";\n"
	case 4:
		if len(g.made) > 0 {
			return g.call(g.pick(len(g.made))) + ";\n"
		}
	}
	return g.one("gl", "gc", "gs", "ga[3]") + " " + g.one("=", "+=", "^=") + " " + g.of(3, 1) + ";\n"
}

// call answers a call of a function that is made.
func (g *typed) call(k int) string {
	out := "f" + strconv.Itoa(k) + "("
	for n, t := range g.made[k].params {
		if n > 0 {
			out += ", "
		}
		out += g.of(t, 1)
	}
	return out + ")"
}

// of answers an expression of a type; what may be too great is cut off.
func (g *typed) of(t int, depth int) string {
	if t == far {
		return g.place(depth)
	}
	if depth == 0 || g.pick(4) == 0 {
		for n, p := range g.now.params {
			if p != far && g.pick(3) == 0 {
				return "p" + strconv.Itoa(n)
			}
		}
		return g.one("v0", "v1", "*v2", "gl", "gc", "gs", "ga["+g.number(8)+"]", g.number(300), "-"+g.number(9), "4000000000")
	}
	if len(g.made) > 0 && g.pick(3) == 0 && g.calls < 30 {
		k := g.pick(len(g.made))
		if a := g.made[k].answer; a != 0 && a != far {
			g.calls++
			return g.call(k)
		}
	}
	a, b := g.of(5, depth-1), g.of(6, depth-1)
	switch g.pick(5) {
	case 0:
		return "((" + a + " & 1023) " + g.one("+", "-", "*") + " (" + b + " & 255))"
	case 1:
		return "(" + typeName(1+g.pick(8)) + ")" + a
	case 2:
		return "((unsigned)" + a + " " + g.one("+", "*", "-", "/ 7u +", "%  9u -") + " " + b + ")"
	case 3:
		return "(" + a + " " + g.one("<", ">=", "==", "^", "|") + " " + b + ")"
	}
	return "(" + a + " ? " + b + " : " + g.of(8, depth-1) + ")"
}

// place answers a pointer into ga.
func (g *typed) place(depth int) string {
	if depth > 0 {
		for k, s := range g.made {
			if s.answer == far && g.pick(2) == 0 && g.calls < 30 {
				g.calls++
				return g.call(k)
			}
		}
		return "(" + g.of(5, 0) + " & 1 ? " + g.place(0) + " : " + g.place(0) + ")"
	}
	for n, p := range g.now.params {
		if p == far && g.pick(2) == 0 {
			return "p" + strconv.Itoa(n)
		}
	}
	return g.one("v2", "ga", "&ga["+g.number(8)+"]", "ga + "+g.number(8))
}
