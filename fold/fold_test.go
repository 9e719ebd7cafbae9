package fold

import (
	"reflect"
	"testing"

	"spokeshave/alike"
	"spokeshave/api"
	"spokeshave/ir"
	"spokeshave/live"
	"spokeshave/walk"
)

func bin(sub, d, a, b int) api.Ins { return api.Ins{Op: api.OpBin, Sub: sub, D: d, A: a, B: b} }

func ret(a int) api.Ins { return api.Ins{Op: api.OpRet, A: a} }

func TestKnown(t *testing.T) { // P14.1
	u8 := api.Width{Bits: 8}
	sw := api.Ins{Op: api.OpSwitch, A: 3, Cases: []int64{1, 3}, To: []int{5, 6, 7}}
	b := api.Block{Ins: []api.Ins{
		walk.Const(0, 300), walk.Const(1, 0), {Op: api.OpExt, D: 2, A: 0, W: u8}, walk.Move(3, 2), bin(api.Add, 4, 3, 0), bin(api.Div, 5, 0, 1), bin(api.Add, 6, 5, 0), {Op: api.OpExt, D: 7, A: 0}, bin(99, 7, 0, 0),
		{Op: api.OpIn, D: 0}, walk.Move(8, 0), {Op: api.OpCall, D: 1, N: 3, Args: []int{1}}, bin(api.Eq, 9, 1, 3), {Op: api.OpCall, D: -1}, walk.Move(9, 3), bin(api.Sub, 3, 4, 3), sw,
	}}
	want := append([]api.Ins{}, b.Ins...)
	want[2], want[3], want[4] = walk.Const(2, 44), walk.Const(3, 44), walk.Const(4, 344)
	want[14], want[15], want[16] = walk.Const(9, 44), walk.Const(3, 300), walk.Jump(7)
	got := Known(b)
	if len(got) != len(want) {
		t.Fatalf("P14.1: %d instructions", len(got))
	}
	for k := range got {
		if !ir.Same(one(got[k]), one(want[k])) {
			t.Errorf("P14.1: the %d-th: %v", k, got[k])
		}
	}
	got[11].Args[0] = 77
	if b.Ins[11].Args[0] != 1 {
		t.Error("R4: Known shares memory")
	}
	for i, c := range []struct{ in, want api.Ins }{
		{api.Ins{Op: api.OpBranch, A: 0, To: []int{4, 5}}, walk.Jump(4)}, {api.Ins{Op: api.OpBranch, A: 1, To: []int{4, 5}}, walk.Jump(5)}, {api.Ins{Op: api.OpBranch, A: 2, To: []int{4, 5}}, api.Ins{Op: api.OpBranch, A: 2, To: []int{4, 5}}},
		{api.Ins{Op: api.OpSwitch, A: 0, Cases: []int64{7}, To: []int{4, 5}}, walk.Jump(4)}, {api.Ins{Op: api.OpSwitch, A: 1, To: []int{4}}, walk.Jump(4)}, {api.Ins{Op: api.OpSwitch, A: 1, Cases: []int64{9}, To: []int{4}}, api.Ins{Op: api.OpSwitch, A: 1, Cases: []int64{9}, To: []int{4}}}, {api.Ins{Op: api.OpBranch, A: 0}, api.Ins{Op: api.OpBranch, A: 0}},
	} {
		got := Known(api.Block{Ins: []api.Ins{walk.Const(0, 7), walk.Const(1, 0), c.in}})
		if !ir.Same(one(got[2]), one(c.want)) {
			t.Errorf("P14.1: an end, the %d-th: %v", i, got[2])
		}
	}
	below := api.Block{Ins: []api.Ins{walk.Const(-5, 7), walk.Move(1, -5), {Op: api.OpIn, D: -5}, walk.Move(2, -5), walk.Const(-1, 8), {Op: api.OpCall, D: -1}, walk.Move(3, -1), {Op: api.OpLoad, D: -1, A: 0}, walk.Move(4, -1)}}
	for k, want := range map[int]api.Ins{1: walk.Const(1, 7), 3: walk.Move(2, -5), 6: walk.Const(3, 8), 8: walk.Move(4, -1)} {
		if got := Known(below)[k]; !ir.Same(one(got), one(want)) {
			t.Errorf("P14.1: registers below 0, the %d-th: %v", k, got)
		}
	}
	if Known(api.Block{}) != nil {
		t.Error("P14.1: Known of an empty block")
	}
}

func one(i api.Ins) api.Prog {
	return api.Prog{Fns: []api.Fn{{Blocks: []api.Block{{Ins: []api.Ins{i}}}}}}
}

func TestLeft(t *testing.T) { // P14.1
	p := api.Prog{Fns: []api.Fn{{Regs: 9, Value: true, Blocks: []api.Block{
		{Ins: []api.Ins{walk.Const(0, 2), walk.Const(1, 3), bin(api.Mul, 2, 0, 1), walk.Const(5, 9), {Op: api.OpBranch, A: 2, To: []int{1, 2}}}},
		{Ins: []api.Ins{bin(api.Add, 2, 2, 0), bin(api.Add, 6, 6, 0), ret(2)}}, {Ins: []api.Ins{ret(1)}}}}}}
	if got := Left(p); got != 4 {
		t.Errorf("P14.1: Left %d", got)
	}
	q := Prog(p)
	if Left(q) != 0 || !ir.Same(Prog(q), q) || ir.Run(q, nil, 99).Code != 8 || ir.Count(q) >= ir.Count(p) {
		t.Errorf("P14.1: Prog %v", q)
	}
	if Left(api.Prog{}) != 0 || !reflect.DeepEqual(Prog(api.Prog{}), api.Prog{}) {
		t.Error("P14.2: a program that may not be")
	}
}

func TestSamples(t *testing.T) { // P14.1, P14.2
	for seed := range 80 {
		p, ok := alike.Sample(seed, "in")
		if !ok {
			continue
		}
		if wrong := alike.Pass(p, "in", Prog); wrong != "" {
			t.Fatalf("P14.2: seed %d: %s", seed, wrong)
		}
		q := Prog(p)
		if Left(q) != 0 || !ir.Same(Prog(q), q) {
			t.Fatalf("P14.1: seed %d: %d left", seed, Left(q))
		}
		for _, f := range q.Fns {
			if live.Dead(f) != 0 {
				t.Fatalf("P14.1: seed %d: dead ones are left", seed)
			}
		}
	}
}
