package live

import (
	"reflect"
	"slices"
	"testing"

	"spokeshave/api"
	"spokeshave/lower"
	"spokeshave/sample"
	"spokeshave/walk"
)

func ret(a int) api.Ins { return api.Ins{Op: api.OpRet, A: a} }

func bin(d, a, b int) api.Ins { return api.Ins{Op: api.OpBin, Sub: api.Add, D: d, A: a, B: b} }

func fn(params int, regs int, blocks ...[]api.Ins) api.Fn {
	f := api.Fn{Params: params, Regs: regs, Value: true}
	for _, b := range blocks {
		f.Blocks = append(f.Blocks, api.Block{Ins: b})
	}
	return f
}

func TestLive(t *testing.T) { // P13.1
	f := fn(2, 130,
		[]api.Ins{walk.Const(2, 0), walk.Const(129, 7), walk.Jump(1)},
		[]api.Ins{bin(2, 2, 0), {Op: api.OpBranch, A: 1, To: []int{1, 2}}},
		[]api.Ins{{Op: api.OpCall, D: 3, Args: []int{2, 129, 2}}, walk.Move(4, 3), {Op: api.OpStore, A: 0, B: 3}, ret(3)},
		[]api.Ins{ret(77)})
	if got := In(f); !reflect.DeepEqual(got, [][]int{{0, 1}, {0, 1, 2, 129}, {0, 2, 129}, {77}}) {
		t.Errorf("P13.1: In %v", got)
	}
	if got := Out(f); !reflect.DeepEqual(got, [][]int{{0, 1, 2, 129}, {0, 1, 2, 129}, nil, nil}) {
		t.Errorf("P13.1: Out %v", got)
	}
	for _, c := range []struct {
		b, k int
		want []int
	}{{0, 0, []int{0, 1, 2}}, {1, 0, []int{0, 1, 2, 129}}, {2, 0, []int{0, 3}}, {2, 1, []int{0, 3}}, {2, 3, nil}, {2, 4, nil}, {2, -1, nil}, {4, 0, nil}, {-1, 0, nil}} {
		if got := Behind(f, c.b, c.k); !slices.Equal(got, c.want) {
			t.Errorf("P13.1: Behind %d, %d: %v", c.b, c.k, got)
		}
	}
	if got := Dead(f); got != 1 {
		t.Errorf("P13.1: Dead %d", got)
	}
	if got := In(fn(1, 2, []api.Ins{walk.Move(1, 0), ret(1)})); !reflect.DeepEqual(got, [][]int{{0}}) {
		t.Errorf("P13.1: In %v", got)
	}
	if got := Dead(fn(1, 2, []api.Ins{{Op: api.OpBin, Sub: api.Div, D: 1, A: 0, B: 0}, {Op: api.OpLoad, D: 1, A: 0}, ret(0)})); got != 0 {
		t.Errorf("P13.1: what is not pure is not dead: %d", got)
	}
}

func TestWrong(t *testing.T) { // P13.1
	for k, f := range []api.Fn{
		{}, fn(0, 1), fn(-1, 1, []api.Ins{ret(0)}), fn(7, 9, []api.Ins{ret(0)}), fn(3, 2, []api.Ins{ret(0)}), fn(0, 1, []api.Ins{ret(1)}), fn(0, 1, nil), fn(0, 1, []api.Ins{walk.Jump(1)}), fn(0, 100001, []api.Ins{ret(0)}), fn(0, 1, []api.Ins{walk.Const(0, 1)}),
		fn(0, 1, []api.Ins{{Op: api.OpBranch, To: []int{0}}}), fn(0, 1, []api.Ins{ret(0), ret(0)}), fn(0, 1, []api.Ins{{Op: 99}}),
	} {
		if In(f) != nil || Out(f) != nil || Behind(f, 0, 0) != nil || Dead(f) != 0 {
			t.Errorf("P13.1: the %d-th that may not be", k)
		}
	}
	// What else ir's Check asks for is not asked for here.
	if got := In(fn(0, 1, []api.Ins{{Op: api.OpCall, D: -1, N: 99, Args: []int{0}}, ret(-1)})); !reflect.DeepEqual(got, [][]int{{0}}) {
		t.Errorf("P13.1: %v", got)
	}
}

// reads tells whether a register is live right ahead of an instruction, by going each way there is.
func reads(f api.Fn, r int, b int, k int, seen map[int]bool) bool {
	for ; ; k++ {
		i := &f.Blocks[b].Ins[k]
		if slices.Contains(walk.Uses(i, nil), r) {
			return true
		}
		if walk.Def(i) == r {
			return false
		}
		if walk.Ends(i.Op) {
			for _, to := range walk.To(i) {
				if !seen[to] {
					seen[to] = true
					if reads(f, r, to, 0, seen) {
						return true
					}
				}
			}
			return false
		}
	}
}

func TestSamples(t *testing.T) { // P13.1
	for seed := range 6 {
		p, _ := lower.Prog(sample.Program(seed))
		for _, f := range p.Fns {
			in := In(f)
			for b := range f.Blocks {
				var want []int
				for r := range f.Regs {
					if reads(f, r, b, 0, map[int]bool{}) {
						want = append(want, r)
					}
				}
				if !slices.Equal(in[b], want) {
					t.Fatalf("P13.1: seed %d, block %d: %v, not %v", seed, b, in[b], want)
				}
			}
		}
	}
}
