package ir

import (
	"slices"

	"spokeshave/api"
	"spokeshave/little"
	"spokeshave/walk"
	"spokeshave/word"
)

const (
	mostCalls  = 1000
	stackBytes = 1 << 20
	fnBytes    = 16 // from one function's address to the next one's
	// fewRegs is how many registers a function may have without being asked whether it names them.
	fewRegs = 256
)

// frame is a call. base: where its registers begin; top: where the stack stood ahead of its slots; low: where they begin; d: the caller's register that gets the answer.
type frame struct {
	fn        *api.Fn
	index     int
	block, at int
	base      int
	top, low  int64
	d         int
}

// machine is a run. kind is 0 till it has come to its end.
type machine struct {
	prog        *api.Prog
	frames      []frame
	regs        []int64
	starts      []int64
	slots       [][]int64
	data        []byte
	stack       []byte
	input       []byte
	read        int
	out         []byte
	fuel, steps int
	kind, code  int
}

// Run answers what a run of p comes to.
func Run(p api.Prog, input []byte, fuel int) api.Outcome {
	if fuel < 0 || fuel > api.MaxFuel || len(input) > api.MaxInput || !Check(p) {
		return api.Outcome{Kind: api.Invalid}
	}
	p.Fns = packed(p.Fns)
	m := machine{prog: &p, input: input, fuel: fuel}
	m.fill()
	m.enter(p.Main, nil, -1, api.StackTop)
	for m.kind == 0 {
		m.step()
	}
	return api.Outcome{Kind: m.kind, Code: m.code, Out: m.out}
}

// packed answers the functions, those of many registers with the ones alone that they name, as a call costs what its registers cost.
func packed(fns []api.Fn) []api.Fn {
	out := slices.Clone(fns)
	for k := range out {
		if out[k].Regs > fewRegs {
			out[k] = walk.CopyFn(out[k])
			walk.Pack(&out[k])
		}
	}
	return out
}

// fill lays the globals out, and tells how far below its frame's top each slot begins.
func (m *machine) fill() {
	for i := range m.prog.Fns {
		var list []int64
		low := int64(0)
		for _, s := range m.prog.Fns[i].Slots {
			low += upwards(int64(s))
			list = append(list, low)
		}
		m.slots = append(m.slots, list)
	}
	at := int64(0)
	for _, g := range m.prog.Globals {
		m.starts = append(m.starts, at)
		at = upwards(at + int64(g.Size))
	}
	m.data = make([]byte, at)
	for k, g := range m.prog.Globals {
		for _, piece := range g.Pieces {
			n := piece.N
			if piece.Func > 0 {
				n = address(piece.Func - 1)
			}
			at := m.starts[k] + int64(piece.At)
			little.Put(m.data[at:at+int64(piece.Bytes)], n)
		}
	}
}

func upwards(n int64) int64 { return (n + 15) / 16 * 16 }

func address(fn int) int64 { return api.CodeBase + fnBytes*int64(fn) }

func (m *machine) stop(kind int, code int64) {
	m.kind = kind
	if kind == api.Exited {
		m.code = int(uint8(code))
	}
}

// enter begins a call whose frame lies below top.
func (m *machine) enter(fn int, args []int64, d int, top int64) {
	f := &m.prog.Fns[fn]
	low := top
	if n := len(f.Slots); n > 0 {
		low -= m.slots[fn][n-1]
	}
	if low < api.StackTop-stackBytes {
		m.stop(api.OutOfFuel, 0)
		return
	}
	if low < top {
		if m.stack == nil {
			m.stack = make([]byte, stackBytes)
		}
		clear(m.stack[low-(api.StackTop-stackBytes) : top-(api.StackTop-stackBytes)])
	}
	base := len(m.regs)
	m.regs = slices.Grow(m.regs, f.Regs)[:base+f.Regs]
	clear(m.regs[base:])
	copy(m.regs[base:], args)
	m.frames = append(m.frames, frame{fn: f, index: fn, base: base, top: top, low: low, d: d})
}

// leave ends the newest call, and answers it.
func (m *machine) leave() frame {
	last := len(m.frames) - 1
	f := m.frames[last]
	m.frames = m.frames[:last]
	m.regs = m.regs[:f.base]
	return f
}

// bytes answers the memory from an address on; nil, unless all of it lies in one global, or the stack.
func (m *machine) bytes(at int64, n int) []byte {
	low := m.frames[len(m.frames)-1].low
	if at >= low && at <= api.StackTop-int64(n) {
		from := at - (api.StackTop - stackBytes)
		return m.stack[from : from+int64(n)]
	}
	at -= api.DataBase
	if at < 0 || at >= int64(len(m.data)) {
		return nil
	}
	k, found := slices.BinarySearch(m.starts, at)
	if !found {
		k--
	}
	if at+int64(n) > m.starts[k]+int64(m.prog.Globals[k].Size) {
		return nil
	}
	return m.data[at : at+int64(n)]
}

// step does an instruction.
func (m *machine) step() {
	if m.steps == m.fuel {
		m.stop(api.OutOfFuel, 0)
		return
	}
	m.steps++
	f := &m.frames[len(m.frames)-1]
	i := &f.fn.Blocks[f.block].Ins[f.at]
	f.at++
	r := m.regs[f.base:]
	switch i.Op {
	case api.OpConst:
		r[i.D] = i.N
	case api.OpMove:
		r[i.D] = r[i.A]
	case api.OpBin:
		n, ok := word.Plain(i.Sub, r[i.A], r[i.B])
		if !ok {
			m.stop(api.Undefined, 0)
			return
		}
		r[i.D] = n
	case api.OpExt:
		r[i.D] = word.Wrap(i.W, r[i.A])
	case api.OpLoad, api.OpStore:
		m.touch(i, r)
	case api.OpSlot:
		r[i.D] = f.top - m.slots[f.index][i.N]
	case api.OpGlobal:
		r[i.D] = api.DataBase + m.starts[i.N]
	case api.OpFunc:
		r[i.D] = address(int(i.N))
	case api.OpIn:
		r[i.D] = m.next()
	case api.OpOut:
		m.out = append(m.out, byte(r[i.A]))
	default:
		m.lead(f, i, r)
	}
}

// next reads a byte of the input.
func (m *machine) next() int64 {
	if m.read == len(m.input) {
		return -1
	}
	m.read++
	return int64(m.input[m.read-1])
}

func (m *machine) touch(i *api.Ins, r []int64) {
	b := m.bytes(r[i.A], i.W.Bits/8)
	switch {
	case b == nil:
		m.stop(api.Undefined, 0)
	case i.Op == api.OpStore:
		little.Put(b, r[i.B])
	default:
		r[i.D] = word.Wrap(i.W, little.Get(b))
	}
}

// lead does an instruction that goes on elsewhere.
func (m *machine) lead(f *frame, i *api.Ins, r []int64) {
	switch i.Op {
	case api.OpJump:
		f.block, f.at = i.To[0], 0
	case api.OpBranch:
		to := i.To[0]
		if r[i.A] == 0 {
			to = i.To[1]
		}
		f.block, f.at = to, 0
	case api.OpSwitch:
		k := slices.Index(i.Cases, r[i.A])
		if k < 0 {
			k = len(i.Cases)
		}
		f.block, f.at = i.To[k], 0
	case api.OpRet:
		n := int64(0)
		if i.A >= 0 {
			n = r[i.A]
		}
		m.answer(n)
	case api.OpExit:
		m.stop(api.Exited, r[i.A])
	case api.OpTrap:
		m.stop(api.Undefined, 0)
	default:
		m.call(f, i, r)
	}
}

// answer ends the newest call with n.
func (m *machine) answer(n int64) {
	if len(m.frames) == 1 {
		m.stop(api.Exited, n)
		return
	}
	d := m.leave().d
	if d >= 0 {
		m.regs[m.frames[len(m.frames)-1].base+d] = n
	}
}

// call does OpCall, OpCallAt, OpTail, OpTailAt.
func (m *machine) call(f *frame, i *api.Ins, r []int64) {
	fn := int(i.N)
	tail := i.Op == api.OpTail || i.Op == api.OpTailAt
	wanted := false
	if i.Op == api.OpCallAt || i.Op == api.OpTailAt {
		at := r[i.A] - api.CodeBase
		if at < 0 || at%fnBytes != 0 || at/fnBytes >= int64(len(m.prog.Fns)) || m.prog.Fns[at/fnBytes].Params != len(i.Args) {
			m.stop(api.Undefined, 0)
			return
		}
		fn = int(at / fnBytes)
		wanted = !tail && i.D != -1 || tail && f.fn.Value
	}
	if !tail && len(m.frames) == mostCalls {
		m.stop(api.OutOfFuel, 0)
		return
	}
	if wanted && !m.prog.Fns[fn].Value {
		m.stop(api.Undefined, 0)
		return
	}
	var room [api.MaxParams]int64
	args := room[:0]
	for _, a := range i.Args {
		args = append(args, r[a])
	}
	d, top := i.D, f.low
	if tail {
		gone := m.leave()
		d, top = gone.d, gone.top
	}
	m.enter(fn, args, d, top)
}
