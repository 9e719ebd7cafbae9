package x86

import (
	"slices"

	"spokeshave/api"
	"spokeshave/little"
	"spokeshave/word"
)

// write is what stands in the memory at first.
type write struct {
	at, bytes, n int64
}

// Code is lines that were read.
type Code struct {
	text  string
	ins   []ins
	main  int
	vars  []variable
	size  int64
	first []write
}

// Print answers the lines.
func (c *Code) Print() string {
	if c == nil {
		return ""
	}
	return c.text
}

// Len answers how many instructions there are.
func (c *Code) Len() int {
	if c == nil {
		return 0
	}
	return len(c.ins)
}

// machine is a run. left, right: what was compared last; flags: whether something was; least: the least that %rsp was; kind is 0 till it has come to its end.
type machine struct {
	code        *Code
	regs        [16]int64
	at          int
	left, right int64
	flags       bool
	data, stack []byte
	low         int64
	input       []byte
	read        int
	out         []byte
	least       int64
	kind, exit  int
}

// Run answers what a run on a stack of so many bytes comes to.
func (c *Code) Run(input []byte, fuel int, stack int) api.Outcome {
	m := c.run(input, fuel, stack)
	if m == nil {
		return api.Outcome{Kind: api.Invalid}
	}
	return api.Outcome{Kind: m.kind, Code: m.exit, Out: m.out}
}

// Deepest answers how far the stack goes down in a run.
func (c *Code) Deepest(input []byte, fuel int) int {
	m := c.run(input, fuel, api.MaxStack)
	if m == nil {
		return 0
	}
	return int(api.StackTop - m.least)
}

// run goes on till the end; nil, if there is nothing to run.
func (c *Code) run(input []byte, fuel int, stack int) *machine {
	if c == nil || fuel < 0 || fuel > 16*api.MaxFuel || len(input) > api.MaxInput || stack < 16 || stack > api.MaxStack || stack%16 != 0 {
		return nil
	}
	m := &machine{code: c, at: c.main, input: input, data: make([]byte, c.size), stack: make([]byte, stack), low: api.StackTop - int64(stack)}
	for _, w := range c.first {
		little.Put(m.data[w.at:w.at+w.bytes], w.n)
	}
	m.regs[r15] = m.low
	m.regs[rsp] = api.StackTop - 8
	m.least = m.regs[rsp]
	for range fuel {
		if m.at == len(c.ins) {
			m.kind = api.Faulted
			return m
		}
		m.step(&c.ins[m.at])
		m.least = min(m.least, m.regs[rsp])
		if m.kind != 0 {
			return m
		}
	}
	m.kind = api.OutOfFuel
	return m
}

// fault ends the run; it answers false for those who end by it.
func (m *machine) fault() bool {
	m.kind = api.Faulted
	return false
}

// bytes answers the memory from an address on; nil, with a fault, unless all of it is a variable's, or the stack's.
func (m *machine) bytes(at int64, n int64) []byte {
	if at >= m.low && at <= api.StackTop-n {
		return m.stack[at-m.low : at-m.low+n]
	}
	from := at - api.DataBase
	if at < api.DataBase || from >= m.code.size {
		m.fault()
		return nil
	}
	k, found := slices.BinarySearchFunc(m.code.vars, from, func(v variable, at int64) int {
		switch {
		case v.at < at:
			return -1
		case v.at > at:
			return 1
		}
		return 0
	})
	if !found {
		k--
	}
	if v := m.code.vars[k]; from+n > v.at+v.size {
		m.fault()
		return nil
	}
	return m.data[from : from+n]
}

// address answers where a memory operand lies.
func (m *machine) address(o *operand) int64 {
	at := o.n
	if o.base >= 0 {
		at += m.regs[o.base]
	}
	if o.index >= 0 {
		at += m.regs[o.index] * o.scale
	}
	return at
}

// value answers what an operand has, in so many bytes; false, with a fault, if that is no memory.
func (m *machine) value(o *operand, bytes int64) (int64, bool) {
	switch o.kind {
	case register:
		return m.regs[o.reg], true
	case memory, near:
		b := m.bytes(m.address(o), bytes)
		return little.Get(b), b != nil
	}
	return o.n, true
}

// store writes a number's lowest bytes to a memory operand.
func (m *machine) store(o *operand, n int64, bytes int64) {
	if b := m.bytes(m.address(o), bytes); b != nil {
		little.Put(b, n)
	}
}

// push makes %rsp 8 less, and writes there.
func (m *machine) push(n int64) bool {
	m.regs[rsp] -= 8
	b := m.bytes(m.regs[rsp], 8)
	little.Put(b, n)
	return b != nil
}

// pop reads where %rsp is, and makes it 8 greater.
func (m *machine) pop() (int64, bool) {
	b := m.bytes(m.regs[rsp], 8)
	m.regs[rsp] += 8
	return little.Get(b), b != nil
}

// lead goes on at an address.
func (m *machine) lead(at int64) {
	if at < api.CodeBase || at-api.CodeBase >= int64(len(m.code.ins)) {
		m.fault()
		return
	}
	m.at = int(at - api.CodeBase)
}

// holds tells whether a compare holds of what was compared last; false, with a fault, if nothing was.
func (m *machine) holds(cc string) (bool, bool) {
	if !m.flags {
		return false, m.fault()
	}
	a, b := m.left, m.right
	u, v := uint64(a), uint64(b)
	switch cc {
	case "e":
		return a == b, true
	case "ne":
		return a != b, true
	case "l":
		return a < b, true
	case "le":
		return a <= b, true
	case "g":
		return a > b, true
	case "ge":
		return a >= b, true
	case "b":
		return u < v, true
	case "be":
		return u <= v, true
	case "a":
		return u > v, true
	}
	return u >= v, true
}

// step does an instruction.
func (m *machine) step(i *ins) {
	m.at++
	switch i.op {
	case opMove:
		if n, ok := m.value(&i.src, 8); ok {
			if i.dst.kind == register {
				m.regs[i.dst.reg] = n
			} else {
				m.store(&i.dst, n, 8)
			}
		}
	case opPut:
		m.store(&i.dst, m.regs[i.src.reg], int64(i.w.Bits/8))
	case opExtend:
		if n, ok := m.value(&i.src, int64(i.w.Bits/8)); ok {
			m.regs[i.dst.reg] = word.Wrap(i.w, n)
		}
	case opLea:
		m.regs[i.dst.reg] = m.address(&i.src)
	case opBin, opShift:
		if n, ok := m.value(&i.src, 8); ok {
			m.regs[i.dst.reg], _ = word.Plain(i.sub, m.regs[i.dst.reg], n)
		}
	case opCmp:
		if n, ok := m.value(&i.src, 8); ok {
			m.left, m.right, m.flags = m.regs[i.dst.reg], n, true
		}
	case opTest:
		m.left, m.right, m.flags = m.regs[i.src.reg]&m.regs[i.dst.reg], 0, true
	case opNeg:
		m.regs[i.dst.reg] = -m.regs[i.dst.reg]
	case opNot:
		m.regs[i.dst.reg] = ^m.regs[i.dst.reg]
	case opCqto:
		m.regs[rdx] = m.regs[rax] >> 63
	case opIdiv, opDiv:
		m.divide(i)
	case opSet:
		if is, ok := m.holds(i.cc); ok {
			m.regs[i.dst.reg] &^= 0xff
			if is {
				m.regs[i.dst.reg] |= 1
			}
		}
	default:
		m.elsewhere(i)
	}
}

// divide does idivq, divq.
func (m *machine) divide(i *ins) {
	a, b := m.regs[rax], m.regs[i.dst.reg]
	quotient, rest, sign := api.Div, api.Mod, a>>63
	if i.op == opDiv {
		quotient, rest, sign = api.UDiv, api.UMod, 0
	}
	q, ok := word.Plain(quotient, a, b)
	if !ok || m.regs[rdx] != sign {
		m.fault()
		return
	}
	m.regs[rdx], _ = word.Plain(rest, a, b)
	m.regs[rax] = q
}

// elsewhere does what leads elsewhere, uses the stack, or speaks with the outside.
func (m *machine) elsewhere(i *ins) {
	switch i.op {
	case opJump:
		m.at = i.to
	case opJumpAt:
		m.lead(m.regs[i.dst.reg])
	case opIf:
		if is, ok := m.holds(i.cc); ok && is {
			m.at = i.to
		}
	case opCall:
		if m.push(api.CodeBase + int64(m.at)) {
			m.at = i.to
		}
	case opCallAt:
		to := m.regs[i.dst.reg]
		if m.push(api.CodeBase + int64(m.at)) {
			m.lead(to)
		}
	case opRet:
		to, ok := m.pop()
		switch {
		case !ok:
		case to == 0:
			m.end(m.regs[rax])
		default:
			m.lead(to)
		}
	case opPush:
		m.push(m.regs[i.dst.reg])
	case opPop:
		if n, ok := m.pop(); ok {
			m.regs[i.dst.reg] = n
		}
	case opIn:
		m.regs[rax] = -1
		if m.read < len(m.input) {
			m.regs[rax] = int64(m.input[m.read])
			m.read++
		}
	case opOut:
		m.out = append(m.out, byte(m.regs[rdi]))
	case opExit:
		m.end(m.regs[rdi])
	case opOver:
		m.kind = api.Overflow
	}
}

// end ends the run with a number's lowest 8 bits.
func (m *machine) end(n int64) {
	m.kind, m.exit = api.Exited, int(uint8(n))
}
