package flow

import (
	"reflect"
	"slices"
	"testing"

	"spokeshave/alike"
	"spokeshave/api"
	"spokeshave/fold"
	"spokeshave/ir"
	"spokeshave/sample"
	"spokeshave/walk"
)

func branch(a, yes, no int) api.Ins { return api.Ins{Op: api.OpBranch, A: a, To: []int{yes, no}} }

func ret(a int) api.Ins { return api.Ins{Op: api.OpRet, A: a} }

func prog(blocks ...[]api.Ins) api.Prog {
	f := api.Fn{Regs: 4, Value: true}
	for _, b := range blocks {
		f.Blocks = append(f.Blocks, api.Block{Ins: b})
	}
	return api.Prog{Fns: []api.Fn{f}}
}

func TestLeft(t *testing.T) { // P15.1
	for k, c := range []struct {
		p       api.Prog
		left    int
		reached []int
	}{
		{prog([]api.Ins{ret(0)}), 0, []int{0}},
		{prog([]api.Ins{walk.Jump(1)}, []api.Ins{ret(0)}), 1, []int{0, 1}},
		{prog([]api.Ins{walk.Jump(0)}), 0, []int{0}},
		{prog([]api.Ins{walk.Jump(1)}, []api.Ins{walk.Jump(0)}), 1, []int{0, 1}},
		{prog([]api.Ins{branch(0, 1, 1)}, []api.Ins{ret(0)}), 1, []int{0, 1}},
		{prog([]api.Ins{ret(0)}, []api.Ins{walk.Jump(2)}, []api.Ins{ret(0)}), 3, []int{0}},
		{prog([]api.Ins{walk.Jump(2)}, []api.Ins{walk.Jump(2)}, []api.Ins{ret(0)}), 1, []int{0, 2}},
		{prog([]api.Ins{branch(0, 1, 2)}, []api.Ins{walk.Jump(3)}, []api.Ins{walk.Jump(3)}, []api.Ins{ret(0)}), 0, []int{0, 1, 2, 3}},
		{prog([]api.Ins{branch(0, 1, 2)}, []api.Ins{walk.Jump(1)}, []api.Ins{walk.Jump(3)}, []api.Ins{walk.Jump(2)}), 1, []int{0, 1, 2, 3}},
		{prog([]api.Ins{{Op: api.OpSwitch, A: 0, Cases: []int64{1}, To: []int{1, 1}}}, []api.Ins{ret(0)}), 0, []int{0, 1}},
	} {
		if got := Left(c.p); got != c.left || !slices.Equal(Reached(c.p.Fns[0]), c.reached) {
			t.Errorf("P15.1: the %d-th: %d, %v", k, got, Reached(c.p.Fns[0]))
		}
		q := Prog(c.p)
		if !ir.Check(q) || Left(q) != 0 || !ir.Same(q, Prog(q)) || ir.Count(q) > ir.Count(c.p) || !alike.Runs(c.p, q, "", 50) {
			t.Errorf("P15.1: Prog, the %d-th: %v", k, q)
		}
	}
	if Left(api.Prog{}) != 0 || !reflect.DeepEqual(Prog(api.Prog{}), api.Prog{}) || Reached(api.Fn{}) != nil {
		t.Error("P15.2: a program that may not be")
	}
	if got := Reached(api.Fn{Blocks: []api.Block{{Ins: []api.Ins{branch(0, -1, 7)}}, {}}}); !slices.Equal(got, []int{0}) {
		t.Errorf("P15.1: Reached of blocks that are not there: %v", got)
	}
}

func TestOrder(t *testing.T) { // P15.2: a chain of blocks, told in any order, does one thing behind the other
	out := func(n int64, more ...api.Ins) []api.Ins {
		return append([]api.Ins{walk.Const(0, n), {Op: api.OpOut, A: 0}}, more...)
	}
	p := prog([]api.Ins{walk.Jump(3)}, out(2, walk.Jump(4)), out(4, ret(0)), out(1, walk.Jump(1)), out(3, walk.Jump(2)))
	q := Prog(p)
	if got := ir.Run(q, nil, 99); string(got.Out) != "\x01\x02\x03\x04" || got.Code != 4 || len(q.Fns[0].Blocks) != 1 {
		t.Errorf("P15.2: %v of %v", got, q)
	}
}

func TestSamples(t *testing.T) { // P15.1, P15.2
	for seed := range 80 {
		p, ok := alike.Sample(seed, "in")
		if !ok {
			continue
		}
		if seed%2 == 1 {
			p = fold.Prog(p)
		}
		if wrong := alike.Pass(p, "in", Prog); wrong != "" {
			t.Fatalf("P15.2: seed %d: %s", seed, wrong)
		}
		q := Prog(p)
		if Left(q) != 0 || !ir.Same(Prog(q), q) || ir.Count(q) > ir.Count(p) {
			t.Fatalf("P15.1: seed %d: %d left", seed, Left(q))
		}
	}
}

func TestMiddle(t *testing.T) { // P15.2: of any program that touches no memory
	ended := 0
	for seed := range 1500 {
		p := sample.Middle(seed)
		if !ir.Check(p) {
			t.Fatalf("seed %d: no program", seed)
		}
		if wrong := alike.Pass(p, "some input", Prog); wrong != "" {
			t.Fatalf("P15.2: seed %d: %s", seed, wrong)
		}
		if Left(Prog(p)) != 0 {
			t.Fatalf("seed %d: %d left", seed, Left(Prog(p)))
		}
		if ir.Run(p, []byte("some input"), 9999).Kind == api.Exited {
			ended++
		}
	}
	if ended < 250 {
		t.Errorf("only %d came to their end", ended)
	}
}
