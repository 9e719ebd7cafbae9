package x86

import (
	"strings"

	"spokeshave/api"
)

// Operations of the machine.
const (
	opMove   = 1
	opPut    = 2 // the lowest bits of a register go to memory
	opExtend = 3
	opLea    = 4
	opBin    = 5
	opCmp    = 6
	opTest   = 7
	opNeg    = 8
	opNot    = 9
	opShift  = 10
	opCqto   = 11
	opIdiv   = 12
	opDiv    = 13
	opSet    = 14
	opJump   = 15
	opJumpAt = 16
	opIf     = 17
	opCall   = 18
	opCallAt = 19
	opRet    = 20
	opPush   = 21
	opPop    = 22
	opIn     = 23
	opOut    = 24
	opExit   = 25
	opOver   = 26
)

// ins is an instruction. sub: of opBin, opShift an operation of words; cc: of opSet, opIf the compare's; w: of opPut, opExtend; to: the instruction that it leads to.
type ins struct {
	op       int
	sub      int
	cc       string
	w        api.Width
	src, dst operand
	to       int
}

func whole(o operand) bool { return o.kind == register && o.bits == 64 }

func part(o operand, bits int) bool { return o.kind == register && o.bits == bits }

func mem(o operand) bool { return o.kind == memory || o.kind == near }

// source tells whether an operand may be I, R or M.
func source(o operand) bool { return o.kind == number || whole(o) || mem(o) }

// readIns reads an instruction, without the tab ahead of it.
func readIns(s string) (ins, bool) {
	word, rest, told := strings.Cut(s, "\t")
	var ops []operand
	if told {
		for _, t := range strings.Split(rest, ", ") {
			o, ok := readOperand(t)
			if !ok {
				return ins{}, false
			}
			ops = append(ops, o)
		}
	}
	switch len(ops) {
	case 0:
		return readPlain(word)
	case 1:
		return readOne(word, ops[0])
	case 2:
		i, ok := readTwo(word, ops[0], ops[1])
		i.src, i.dst = ops[0], ops[1]
		return i, ok
	}
	return ins{}, false
}

func readPlain(word string) (ins, bool) {
	switch word {
	case "cqto":
		return ins{op: opCqto}, true
	case "ret":
		return ins{op: opRet}, true
	case "sysin":
		return ins{op: opIn}, true
	case "sysout":
		return ins{op: opOut}, true
	case "sysexit":
		return ins{op: opExit}, true
	case "sysover":
		return ins{op: opOver}, true
	}
	return ins{}, false
}

// compare tells whether cc is one of the compares.
func compare(cc string) bool {
	switch cc {
	case "e", "ne", "l", "le", "g", "ge", "b", "be", "a", "ae":
		return true
	}
	return false
}

func readOne(word string, o operand) (ins, bool) {
	i := ins{dst: o}
	switch word {
	case "negq":
		i.op = opNeg
	case "notq":
		i.op = opNot
	case "idivq":
		i.op = opIdiv
	case "divq":
		i.op = opDiv
	case "pushq":
		i.op = opPush
	case "popq":
		i.op = opPop
	case "jmp", "call":
		i.op = opJump
		if word == "call" {
			i.op = opCall
		}
		if o.kind == star {
			i.op++
		}
		return i, o.kind == star || o.kind == label
	default:
		if cc, ok := strings.CutPrefix(word, "set"); ok && compare(cc) {
			i.op, i.cc = opSet, cc
			return i, part(o, 8)
		}
		if cc, ok := strings.CutPrefix(word, "j"); ok && compare(cc) {
			i.op, i.cc = opIf, cc
			return i, o.kind == label
		}
		return i, false
	}
	return i, whole(o)
}

func readTwo(word string, a operand, b operand) (ins, bool) {
	switch word {
	case "movq":
		return ins{op: opMove}, source(a) && whole(b) || (a.kind == number || whole(a)) && mem(b)
	case "movabsq":
		return ins{op: opMove}, (a.kind == number || a.kind == wide) && whole(b)
	case "movb":
		return ins{op: opPut, w: api.Width{Bits: 8}}, part(a, 8) && mem(b)
	case "movw":
		return ins{op: opPut, w: api.Width{Bits: 16}}, part(a, 16) && mem(b)
	case "movl":
		if part(a, 32) && mem(b) {
			return ins{op: opPut, w: api.Width{Bits: 32}}, true
		}
		return ins{op: opExtend, w: api.Width{Bits: 32}}, (mem(a) || part(a, 32)) && part(b, 32)
	case "movsbq", "movswq", "movslq", "movzbq", "movzwq":
		return readExtend(word, a, b)
	case "leaq":
		return ins{op: opLea}, mem(a) && whole(b)
	case "cmpq":
		return ins{op: opCmp}, source(a) && whole(b)
	case "testq":
		return ins{op: opTest}, whole(a) && whole(b)
	case "shlq", "sarq", "shrq":
		cl := part(a, 8) && a.reg == rcx
		return ins{op: opShift, sub: binary(word)}, whole(b) && (cl || a.kind == number && a.n >= 0 && a.n < 64)
	}
	sub := binary(word)
	return ins{op: opBin, sub: sub}, sub != 0 && source(a) && whole(b)
}

func readExtend(word string, a operand, b operand) (ins, bool) {
	bits := 8
	switch word[4] {
	case 'w':
		bits = 16
	case 'l':
		bits = 32
	}
	w := api.Width{Bits: bits, Signed: word[3] == 's'}
	return ins{op: opExtend, w: w}, (mem(a) || part(a, bits)) && whole(b)
}

// binary answers the operation of words that a word does; 0, if it is none.
func binary(word string) int {
	switch word {
	case "addq":
		return api.Add
	case "subq":
		return api.Sub
	case "imulq":
		return api.Mul
	case "andq":
		return api.And
	case "orq":
		return api.Or
	case "xorq":
		return api.Xor
	case "shlq":
		return api.Shl
	case "sarq":
		return api.Sar
	case "shrq":
		return api.Shr
	}
	return 0
}
