package emit

import (
	"spokeshave/api"
	"spokeshave/moves"
)

type move = moves.Move

// base answers the name of a register of the machine by its place.
func base(place int) string {
	names := [machine]string{"si", "8", "9", "10", "11", "12", "bx", "bp", "13", "14"}
	return names[place]
}

// place answers the operand that a place is.
func (w *writer) place(p int) string {
	switch {
	case p == spare:
		return "%rax"
	case p < machine:
		return "%r" + base(p)
	case p == machine:
		return "(%rsp)"
	}
	return decimal(int64(8*(p-machine))) + "(%rsp)"
}

// at answers the operand that a register is.
func (w *writer) at(r int) string { return w.place(w.plan.places[r]) }

func (w *writer) spilled(r int) bool { return w.plan.places[r] >= machine }

// into answers a register of the machine that has what r has: its own, or the one told.
func (w *writer) into(r int, scratch string) string {
	if !w.spilled(r) {
		return w.at(r)
	}
	w.ins("movq", w.at(r), scratch)
	return scratch
}

// target answers a register of the machine in which r may be made.
func (w *writer) target(r int) string {
	if w.spilled(r) {
		return "%rax"
	}
	return w.at(r)
}

// done brings what was made in target to its place.
func (w *writer) done(r int) {
	if w.spilled(r) {
		w.ins("movq", "%rax", w.at(r))
	}
}

// moved does movq, where it is not for nothing. Not both lie in memory.
func (w *writer) moved(from string, to string) {
	if from != to {
		w.ins("movq", from, to)
	}
}

// moves does many moves at once; of each at most one place lies in memory.
func (w *writer) moves(list []move) {
	order, _ := moves.Order(list, spare)
	for _, m := range order {
		w.moved(w.place(m.From), w.place(m.To))
	}
}

// part answers the name of a register's lowest bits.
func part(register string, bits int) string {
	name := register[2:]
	numbered := name[0] >= '0' && name[0] <= '9'
	switch {
	case bits == 64:
		return register
	case numbered && bits == 32:
		return register + "d"
	case numbered && bits == 16:
		return register + "w"
	case numbered:
		return register + "b"
	case bits == 32:
		return "%e" + name
	case bits == 16:
		return "%" + name
	case name == "ax" || name == "bx" || name == "cx" || name == "dx":
		return "%" + name[:1] + "l"
	}
	return "%" + name + "l"
}

// extension answers the word that extends a width's bits.
func extension(w api.Width) string {
	switch {
	case w.Bits == 64:
		return "movq"
	case w.Bits == 32 && !w.Signed:
		return "movl"
	}
	s := "movz"
	if w.Signed {
		s = "movs"
	}
	switch w.Bits {
	case 8:
		return s + "bq"
	case 16:
		return s + "wq"
	}
	return s + "lq"
}

// extended brings bits of an operand, extended, to a register of the machine.
func (w *writer) extended(width api.Width, from string, to string) {
	if width.Bits == 32 && !width.Signed {
		to = part(to, 32)
	}
	w.ins(extension(width), from, to)
}
