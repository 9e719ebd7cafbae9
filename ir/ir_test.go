package ir

import (
	"math"
	"slices"
	"testing"

	"spokeshave/api"
)

var (
	i8  = api.Width{Bits: 8, Signed: true}
	u8  = api.Width{Bits: 8}
	i64 = api.Width{Bits: 64, Signed: true}
)

func con(d int, n int64) api.Ins          { return api.Ins{Op: api.OpConst, D: d, N: n} }
func ret(a int) api.Ins                   { return api.Ins{Op: api.OpRet, A: a} }
func bin(sub, d, a, b int) api.Ins        { return api.Ins{Op: api.OpBin, Sub: sub, D: d, A: a, B: b} }
func load(w api.Width, d, a int) api.Ins  { return api.Ins{Op: api.OpLoad, W: w, D: d, A: a} }
func store(w api.Width, a, b int) api.Ins { return api.Ins{Op: api.OpStore, W: w, A: a, B: b} }
func call(d int, fn int64, args ...int) api.Ins {
	return api.Ins{Op: api.OpCall, D: d, N: fn, Args: args}
}
func fn(params, regs int, value bool, ins ...api.Ins) api.Fn {
	return api.Fn{Name: "f", Params: params, Regs: regs, Value: value, Blocks: []api.Block{{Ins: ins}}}
}

// one is a program whose main does these.
func one(ins ...api.Ins) api.Prog {
	return api.Prog{Globals: []api.Global{{Name: "g", Size: 5, Pieces: []api.Piece{{At: 1, Bytes: 2, N: -2}}}, {Name: "h", Size: 8, Pieces: []api.Piece{{Bytes: 8, Func: 2}}}},
		Fns: []api.Fn{fn(0, 9, true, ins...), fn(2, 3, true, bin(api.Sub, 2, 0, 1), ret(2)), fn(0, 1, false, ret(-1))}}
}

func TestRun(t *testing.T) { // P8.1
	slots := one(api.Ins{Op: api.OpSlot, D: 0, N: 0}, api.Ins{Op: api.OpSlot, D: 1, N: 1}, con(2, 7), store(i64, 1, 2), bin(api.Sub, 3, 0, 1), load(i64, 4, 1), bin(api.Add, 5, 3, 4), ret(5))
	slots.Fns[0].Slots = []int{3, 17}
	branch := one(con(0, 5), api.Ins{Op: api.OpBranch, A: 0, To: []int{1, 2}})
	branch.Fns[0].Blocks = append(branch.Fns[0].Blocks, api.Block{Ins: []api.Ins{{Op: api.OpSwitch, A: 0, Cases: []int64{4, 5, 5}, To: []int{2, 3, 2, 2}}}}, api.Block{Ins: []api.Ins{{Op: api.OpTrap}}}, api.Block{Ins: []api.Ins{{Op: api.OpExit, A: 0}}})
	for i, c := range []struct {
		p          api.Prog
		kind, code int
		out        string
	}{
		{one(con(0, 300), ret(0)), api.Exited, 44, ""}, {one(ret(-1)), api.Exited, 0, ""}, {one(con(0, -1), api.Ins{Op: api.OpExit, A: 0}), api.Exited, 255, ""}, {one(ret(3)), api.Exited, 0, ""},
		{one(con(0, 9), con(1, 4), call(2, 1, 0, 1), ret(2)), api.Exited, 5, ""}, {one(con(0, 9), con(1, 4), api.Ins{Op: api.OpTail, N: 1, Args: []int{1, 0}}), api.Exited, 251, ""},
		{one(api.Ins{Op: api.OpGlobal, D: 0, N: 1}, load(i64, 1, 0), con(2, 3), api.Ins{Op: api.OpCallAt, D: 3, A: 1, Args: []int{2, 4}}, ret(3)), api.Exited, 3, ""},
		{one(api.Ins{Op: api.OpFunc, D: 0, N: 1}, con(1, api.CodeBase+16), bin(api.Eq, 2, 0, 1), ret(2)), api.Exited, 1, ""},
		{one(api.Ins{Op: api.OpGlobal, D: 0, N: 0}, con(1, api.DataBase+1), con(2, 1), bin(api.Add, 3, 0, 2), load(i8, 4, 1), load(u8, 5, 3), bin(api.Add, 6, 4, 5), ret(6)), api.Exited, 252, ""},
		{one(api.Ins{Op: api.OpGlobal, D: 0, N: 1}, con(1, api.DataBase+16), bin(api.Eq, 2, 0, 1), ret(2)), api.Exited, 1, ""},
		{one(con(0, api.DataBase+4), load(u8, 1, 0), ret(1)), api.Exited, 0, ""}, {one(con(0, api.DataBase+5), load(u8, 1, 0), ret(1)), api.Undefined, 0, ""}, {one(con(0, api.DataBase+2), load(api.Width{Bits: 32}, 1, 0), ret(1)), api.Undefined, 0, ""},
		{one(con(0, api.DataBase-1), load(u8, 1, 0), ret(1)), api.Undefined, 0, ""}, {one(con(0, 0), store(i64, 0, 0), ret(1)), api.Undefined, 0, ""}, {one(con(0, api.StackTop-1), load(u8, 1, 0), ret(1)), api.Undefined, 0, ""}, {one(con(0, math.MaxInt64), load(i64, 1, 0), ret(1)), api.Undefined, 0, ""},
		{one(con(0, 1), con(1, 0), bin(api.Div, 2, 0, 1), ret(2)), api.Undefined, 0, ""}, {one(con(0, 300), api.Ins{Op: api.OpExt, D: 0, A: 0, W: i8}, ret(0)), api.Exited, 44, ""}, {one(api.Ins{Op: api.OpTrap}), api.Undefined, 0, ""},
		{one(api.Ins{Op: api.OpIn, D: 0}, api.Ins{Op: api.OpOut, A: 0}, api.Ins{Op: api.OpIn, D: 1}, api.Ins{Op: api.OpIn, D: 2}, api.Ins{Op: api.OpOut, A: 2}, ret(2)), api.Exited, 255, "x\xff"},
		{one(con(0, 5), api.Ins{Op: api.OpCallAt, D: -1, A: 0}, ret(0)), api.Undefined, 0, ""}, {one(con(0, api.CodeBase+32), api.Ins{Op: api.OpCallAt, D: -1, A: 0}, ret(0)), api.Exited, 32, ""}, {one(con(0, api.CodeBase+32), api.Ins{Op: api.OpCallAt, D: 1, A: 0}, ret(0)), api.Undefined, 0, ""},
		{one(con(0, api.CodeBase+33), api.Ins{Op: api.OpCallAt, D: -1, A: 0}, ret(0)), api.Undefined, 0, ""}, {one(con(0, api.CodeBase+48), api.Ins{Op: api.OpCallAt, D: -1, A: 0}, ret(0)), api.Undefined, 0, ""}, {one(con(0, api.CodeBase+16), api.Ins{Op: api.OpCallAt, D: 1, A: 0, Args: []int{0}}, ret(0)), api.Undefined, 0, ""},
		{one(con(0, api.CodeBase+32), api.Ins{Op: api.OpTailAt, A: 0}), api.Undefined, 0, ""}, {one(con(0, api.CodeBase+16), api.Ins{Op: api.OpTailAt, A: 0, Args: []int{0, 1}}), api.Exited, 16, ""}, {slots, api.Exited, 39, ""}, {branch, api.Exited, 5, ""},
	} {
		got := Run(c.p, []byte("xy"), 99)
		if got.Kind != c.kind || got.Code != c.code || string(got.Out) != c.out {
			t.Errorf("P8.1: Run, the %d-th: %v", i, got)
		}
	}
	void := one(con(2, 5), call(2, 3), ret(2))
	void.Fns = append(void.Fns, fn(0, 1, true, ret(-1)))
	if got := Run(void, nil, 9); got.Kind != api.Exited || got.Code != 0 {
		t.Errorf("P8.1: an OpRet of -1 answers 0: %v", got)
	}
}

func TestFuel(t *testing.T) { // P8.1
	p := one(con(0, 1), con(1, 1), call(2, 1, 0, 1), ret(2))
	if Run(p, nil, 6).Kind != api.Exited || Run(p, nil, 5).Kind != api.OutOfFuel || Run(p, nil, -1).Kind != api.Invalid || Run(p, nil, api.MaxFuel+1).Kind != api.Invalid || Run(p, make([]byte, api.MaxInput+1), 9).Kind != api.Invalid || Run(p, make([]byte, api.MaxInput), api.MaxFuel).Kind != api.Exited {
		t.Error("P8.1: fuel and input")
	}
	// down calls itself as often as it is told.
	down := func(n int64, at api.Ins) api.Prog {
		p := one(con(0, n), call(1, 3, 0), ret(1))
		f := fn(1, 4, true, api.Ins{Op: api.OpBranch, A: 0, To: []int{1, 2}})
		f.Blocks = append(f.Blocks, api.Block{Ins: []api.Ins{con(1, 1), bin(api.Sub, 0, 0, 1), at, ret(2)}}, api.Block{Ins: []api.Ins{ret(0)}})
		if at.Op == api.OpTail {
			f.Blocks[1].Ins = f.Blocks[1].Ins[:3]
		}
		p.Fns = append(p.Fns, f)
		return p
	}
	for i, c := range []struct {
		n     int64
		ins   api.Ins
		slots []int
		kind  int
	}{
		{998, call(2, 3, 0), nil, api.Exited}, {999, call(2, 3, 0), nil, api.OutOfFuel}, {9999, api.Ins{Op: api.OpTail, N: 3, Args: []int{0}}, []int{65536}, api.Exited},
		{15, call(2, 3, 0), []int{65536}, api.Exited}, {16, call(2, 3, 0), []int{65536}, api.OutOfFuel}, {900, call(2, 3, 0), []int{1000, 9}, api.Exited},
	} {
		p := down(c.n, c.ins)
		p.Fns[3].Slots = c.slots
		if c.slots != nil && c.slots[0] == 1000 {
			p.Fns[3].Slots = c.slots[:2]
		}
		if got := Run(p, nil, api.MaxFuel); got.Kind != c.kind {
			t.Errorf("P8.1: calls within one another, the %d-th: %v", i, got)
		}
	}
	deep := down(998, call(2, 3, 0))
	deep.Fns[3].Blocks[2].Ins = []api.Ins{con(0, 5), {Op: api.OpCallAt, D: -1, A: 0}, ret(0)}
	if got := Run(deep, nil, api.MaxFuel); got.Kind != api.Undefined {
		t.Errorf("P8.1: no function comes first: %v", got)
	}
}

func TestManyRegs(t *testing.T) { // P8.1: what a function does not name costs nothing
	p := one(con(8, 300), api.Ins{Op: api.OpJump, To: []int{1}})
	p.Fns[0].Blocks = append(p.Fns[0].Blocks,
		api.Block{Ins: []api.Ins{con(0, 998), call(7, 3, 0, 8), con(1, 1), bin(api.Sub, 8, 8, 1), {Op: api.OpBranch, A: 8, To: []int{1, 2}}}},
		api.Block{Ins: []api.Ins{ret(7)}})
	f := fn(2, 100000, true, api.Ins{Op: api.OpBranch, A: 0, To: []int{1, 2}})
	f.Blocks = append(f.Blocks,
		api.Block{Ins: []api.Ins{con(99999, 1), bin(api.Sub, 0, 0, 99999), call(70000, 3, 0, 1), ret(70000)}},
		api.Block{Ins: []api.Ins{bin(api.Add, 60000, 1, 50000), con(50000, 5), ret(60000)}})
	p.Fns = append(p.Fns, f)
	before := Copy(p)
	if got := Run(p, nil, api.MaxFuel); got.Kind != api.OutOfFuel || !Same(p, before) {
		t.Errorf("P8.1: many registers: %v", got)
	}
	p.Fns[0].Blocks[0].Ins[0].N = 7
	if got := Run(p, nil, api.MaxFuel); got.Kind != api.Exited || got.Code != 1 {
		t.Errorf("P8.1: many registers: %v", got)
	}
}

func TestZeros(t *testing.T) { // P8.1
	p := one(call(0, 3), call(1, 3), ret(1))
	f := fn(0, 5, true, load(i8, 2, 4), api.Ins{Op: api.OpSlot, D: 0, N: 0}, load(i64, 1, 0), con(2, 9), store(i64, 0, 2), ret(1))
	f.Blocks[0].Ins = f.Blocks[0].Ins[1:]
	f.Slots = []int{8}
	p.Fns = append(p.Fns, f)
	if got := Run(p, nil, 99); got.Kind != api.Exited || got.Code != 0 {
		t.Errorf("P8.1: each call's slots are zeros: %v", got)
	}
}

func TestCheck(t *testing.T) { // P8.1
	if !Check(one(ret(-1))) || Check(api.Prog{}) {
		t.Error("P8.1: Check")
	}
	bad := []func(*api.Prog){
		func(p *api.Prog) { p.Main = 1 }, func(p *api.Prog) { p.Main = -1 }, func(p *api.Prog) { p.Main = 3 }, func(p *api.Prog) { p.Globals[0].Size = 0 }, func(p *api.Prog) { p.Globals[0].Size = api.MaxBytes + 1 },
		func(p *api.Prog) { p.Globals[0].Pieces[0].Bytes = 3 }, func(p *api.Prog) { p.Globals[0].Pieces[0].At = 4 }, func(p *api.Prog) { p.Globals[0].Pieces[0].At = -1 }, func(p *api.Prog) { p.Globals[0].Pieces[0].Func = 1 }, func(p *api.Prog) { p.Globals[1].Pieces[0].Func = 4 }, func(p *api.Prog) { p.Globals[1].Pieces[0].Func = -1 },
		func(p *api.Prog) { p.Fns[1].Params = 7; p.Fns[1].Regs = 9 }, func(p *api.Prog) { p.Fns[1].Params = 4 }, func(p *api.Prog) { p.Fns[0].Regs = 100001 }, func(p *api.Prog) { p.Fns[0].Slots = []int{0} }, func(p *api.Prog) { p.Fns[0].Slots = []int{api.MaxBytes + 1} },
		func(p *api.Prog) { p.Fns[0].Blocks = nil }, func(p *api.Prog) { p.Fns[0].Blocks = append(p.Fns[0].Blocks, api.Block{}) },
	}
	for k, b := range bad {
		p := one(ret(-1))
		b(&p)
		if Check(p) || Run(p, nil, 9).Kind != api.Invalid {
			t.Errorf("P8.1: Check, the %d-th that may not be", k)
		}
	}
	for k, ins := range [][]api.Ins{
		{}, {con(0, 1)}, {ret(0), ret(0)}, {{Op: 0}, ret(0)}, {{Op: api.Opcodes}}, {con(9, 1), ret(0)}, {con(-1, 1), ret(0)}, {ret(9)}, {ret(-2)}, {bin(0, 0, 0, 0), ret(0)}, {bin(api.Subs, 0, 0, 0), ret(0)}, {bin(1, 0, 9, 0), ret(0)}, {bin(1, 0, 0, 9), ret(0)},
		{load(api.Width{Bits: 9}, 0, 0), ret(0)}, {store(api.Width{}, 0, 0), ret(0)}, {{Op: api.OpExt}, ret(0)}, {{Op: api.OpSlot}, ret(0)}, {{Op: api.OpGlobal, N: 2}, ret(0)}, {{Op: api.OpGlobal, N: -1}, ret(0)}, {{Op: api.OpFunc, N: 3}, ret(0)},
		{call(0, 3), ret(0)}, {call(0, 1, 0), ret(0)}, {call(0, 2), ret(0)}, {call(-2, 2), ret(0)}, {call(9, 1, 0, 0), ret(0)}, {call(0, 1, 0, 9), ret(0)}, {{Op: api.OpCallAt, D: 0, A: 0, Args: []int{0, 0, 0, 0, 0, 0, 0}}, ret(0)}, {{Op: api.OpCallAt, D: 0, A: -1}, ret(0)},
		{{Op: api.OpJump}}, {{Op: api.OpJump, To: []int{1}}}, {{Op: api.OpJump, To: []int{-1}}}, {{Op: api.OpBranch, To: []int{0}}}, {{Op: api.OpBranch, A: 9, To: []int{0, 0}}}, {{Op: api.OpSwitch, Cases: []int64{1}, To: []int{0}}}, {{Op: api.OpTail, N: 2}}, {{Op: api.OpTail, N: 1}}, {{Op: api.OpExit, A: -1}}, {{Op: api.OpIn, D: -1}, ret(0)}, {{Op: api.OpOut, A: 9}, ret(0)},
	} {
		if Check(one(ins...)) {
			t.Errorf("P8.1: Check, the %d-th row that may not be", k)
		}
	}
	for k, ins := range [][]api.Ins{
		{call(-1, 2), ret(-1)}, {{Op: api.OpCallAt, D: -1, A: 0, Args: []int{0, 0, 0, 0, 0, 0}}, ret(0)}, {{Op: api.OpSwitch, To: []int{0}}}, {{Op: api.OpTail, N: 1, Args: []int{0, 0}}}, {{Op: api.OpConst, A: -5, B: 99, Args: []int{77}, To: []int{9}}, {Op: api.OpTrap, A: -9}},
	} {
		if !Check(one(ins...)) {
			t.Errorf("P8.1: Check, the %d-th row that may be", k)
		}
	}
	quiet := one(ret(-1))
	quiet.Fns[2].Blocks[0].Ins = []api.Ins{ret(0)}
	if Check(quiet) {
		t.Error("P8.1: OpRet of a function without Value")
	}
}

func TestHelp(t *testing.T) { // P8.2
	p := one(con(0, 1), call(2, 1, 0, 0), api.Ins{Op: api.OpSwitch, A: 0, Cases: []int64{1}, To: []int{0, 0}})
	q := Copy(p)
	if Count(p) != 6 || !Same(p, q) {
		t.Error("P8.2: Count, Copy, Same")
	}
	for k, change := range []func(){
		func() { q.Main = 1 }, func() { q.Globals[0].Pieces[0].N = 1 }, func() { q.Globals[0].Name = "x" }, func() { q.Fns[0].Blocks[0].Ins[1].Args[0] = 3 }, func() { q.Fns[0].Blocks[0].Ins[2].Cases[0] = 3 }, func() { q.Fns[0].Blocks[0].Ins[2].To[0] = 3 }, func() { q.Fns[0].Slots = []int{1} },
		func() { q.Fns[0].Value = false }, func() { q.Fns[0].Blocks[0].Ins[0].N = 9 }, func() { q.Fns[0].Blocks[0].Ins[0].W = i8 }, func() { q.Fns[2].Name = "" }, func() { q.Fns = q.Fns[:2] },
	} {
		q = Copy(p)
		change()
		if Same(p, q) || !Same(p, one(p.Fns[0].Blocks[0].Ins...)) {
			t.Errorf("P8.2: Same, the %d-th change", k)
		}
	}
	q = Copy(p)
	q.Fns[0].Slots, q.Fns[0].Blocks[0].Ins[0].Args = []int{}, []int{}
	if !Same(p, q) {
		t.Error("P8.2: nil and empty are the same")
	}
	for k, c := range []struct {
		i    api.Ins
		uses []int
		pure bool
	}{
		{store(i8, 3, 4), []int{3, 4}, false}, {bin(api.Add, 1, 5, 5), []int{5, 5}, true}, {bin(api.UMod, 1, 5, 6), []int{5, 6}, false}, {bin(api.Div, 1, 5, 6), []int{5, 6}, false}, {api.Ins{Op: api.OpCallAt, D: 0, A: 2, Args: []int{7, 2}}, []int{2, 7, 2}, false}, {ret(-1), nil, false}, {ret(2), []int{2}, false},
		{ret(0), []int{0}, false}, {ret(-2), []int{-2}, false}, {ret(-5), []int{-5}, false}, {ret(math.MinInt), []int{math.MinInt}, false}, {api.Ins{Op: api.OpMove, A: -1}, []int{-1}, true}, {api.Ins{Op: api.OpOut, A: -5}, []int{-5}, false}, {api.Ins{Op: api.OpExit, A: -1}, []int{-1}, false},
		{con(1, 1), nil, true}, {api.Ins{Op: api.OpMove, A: 3}, []int{3}, true}, {api.Ins{Op: api.OpExt, A: 3}, []int{3}, true}, {load(i8, 1, 2), []int{2}, false}, {api.Ins{Op: api.OpFunc, A: 9}, nil, true}, {api.Ins{Op: api.OpSlot}, nil, true}, {api.Ins{Op: api.OpGlobal}, nil, true}, {api.Ins{Op: api.OpIn}, nil, false},
		{api.Ins{Op: api.OpTail, A: 9, Args: []int{1}}, []int{1}, false}, {api.Ins{Op: api.OpBranch, A: 1}, []int{1}, false}, {api.Ins{Op: api.OpExit, A: 1}, []int{1}, false}, {api.Ins{Op: api.OpOut, A: 1}, []int{1}, false}, {api.Ins{Op: 77, A: 1, Args: []int{1}}, nil, false}, {api.Ins{Op: api.OpJump}, nil, false},
	} {
		if got := Uses(c.i); !slices.Equal(got, c.uses) || Pure(c.i) != c.pure {
			t.Errorf("P8.2: the %d-th: %v, %v", k, got, Pure(c.i))
		}
	}
}
