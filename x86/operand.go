package x86

import (
	"math"
	"strconv"
	"strings"
)

// Kinds of operands.
const (
	number   = 1 // of 32 bits
	wide     = 2 // a number that is none of 32 bits
	register = 3
	memory   = 4
	near     = 5 // NAME(%rip), of a variable or a label, or NAME+N(%rip)
	label    = 6
	star     = 7 // *R
)

// operand is one. bits: of a register; base, index: registers, or -1; n: a number, or what memory lies on from its registers.
type operand struct {
	kind        int
	reg, bits   int
	base, index int
	scale       int64
	n           int64
	name        string
}

const (
	rax = 0
	rcx = 2
	rdx = 3
	rdi = 5
	rsp = 7
	r15 = 15
)

// registerOf answers the register that has a name (behind %), and its bits.
func registerOf(name string) (int, int, bool) {
	names := [...]string{"ax", "bx", "cx", "dx", "si", "di", "bp", "sp"}
	for k, n := range names {
		low := n + "l"
		if k < 4 {
			low = n[:1] + "l"
		}
		switch name {
		case "r" + n:
			return k, 64, true
		case "e" + n:
			return k, 32, true
		case n:
			return k, 16, true
		case low:
			return k, 8, true
		}
	}
	if len(name) < 2 || name[0] != 'r' {
		return 0, 0, false
	}
	bits := 64
	digits := name[1:]
	switch digits[len(digits)-1] {
	case 'd':
		bits = 32
	case 'w':
		bits = 16
	case 'b':
		bits = 8
	}
	if bits < 64 {
		digits = digits[:len(digits)-1]
	}
	n, ok := decimal(digits)
	return int(n), bits, ok && n >= 8 && n <= 15
}

// decimal reads a number that is told without needless zeros.
func decimal(s string) (int64, bool) {
	n, err := strconv.ParseInt(s, 10, 64)
	return n, err == nil && strconv.FormatInt(n, 10) == s
}

func fits32(n int64) bool { return n >= math.MinInt32 && n <= math.MaxInt32 }

// nameOK tells whether s may name a variable or a label.
func nameOK(s string) bool {
	if s == "" || len(s) > 60 {
		return false
	}
	for k := range len(s) {
		c := s[k]
		digit := '0' <= c && c <= '9'
		if digit && k == 0 || !digit && c != '_' && c != '.' && (c < 'a' || c > 'z') && (c < 'A' || c > 'Z') {
			return false
		}
	}
	return true
}

// readOperand reads an operand.
func readOperand(s string) (operand, bool) {
	o := operand{base: -1, index: -1}
	switch {
	case s == "":
		return o, false
	case s[0] == '$':
		n, ok := decimal(s[1:])
		o.kind, o.n = number, n
		if !fits32(n) {
			o.kind = wide
		}
		return o, ok
	case s[0] == '%':
		o.kind = register
		var ok bool
		o.reg, o.bits, ok = registerOf(s[1:])
		return o, ok
	case s[0] == '*':
		r, ok := readOperand(s[1:])
		o.kind, o.reg = star, r.reg
		return o, ok && r.kind == register && r.bits == 64
	case strings.HasSuffix(s, "(%rip)"):
		return readNear(o, strings.TrimSuffix(s, "(%rip)"))
	case s[len(s)-1] == ')':
		return readMemory(o, s[:len(s)-1])
	}
	o.kind, o.name = label, s
	return o, nameOK(s)
}

func readNear(o operand, s string) (operand, bool) {
	name, more, plus := strings.Cut(s, "+")
	o.kind, o.name = near, name
	if plus {
		n, ok := decimal(more)
		o.n = n
		return o, ok && n > 0 && n <= math.MaxInt32 && nameOK(name)
	}
	return o, nameOK(name)
}

// readMemory reads N(R or N(R,R,S.
func readMemory(o operand, s string) (operand, bool) {
	before, inside, ok := strings.Cut(s, "(")
	if !ok {
		return o, false
	}
	o.kind = memory
	if before != "" {
		n, ok := decimal(before)
		if !ok || n == 0 || !fits32(n) {
			return o, false
		}
		o.n = n
	}
	parts := strings.Split(inside, ",")
	if len(parts) != 1 && len(parts) != 3 {
		return o, false
	}
	o.base, ok = wholeRegister(parts[0])
	if !ok || len(parts) == 1 {
		return o, ok
	}
	o.index, ok = wholeRegister(parts[1])
	if !ok || o.index == rsp {
		return o, false
	}
	switch parts[2] {
	case "1", "2", "4", "8":
		o.scale = int64(parts[2][0] - '0')
		return o, true
	}
	return o, false
}

// wholeRegister reads a register of 64 bits.
func wholeRegister(s string) (int, bool) {
	if s == "" || s[0] != '%' {
		return 0, false
	}
	r, bits, ok := registerOf(s[1:])
	return r, ok && bits == 64
}
