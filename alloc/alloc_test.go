package alloc

import (
	"slices"
	"testing"

	"spokeshave/alike"
	"spokeshave/api"
	"spokeshave/fold"
	"spokeshave/inline"
	"spokeshave/live"
	"spokeshave/sample"
	"spokeshave/walk"
)

func ret(a int) api.Ins { return api.Ins{Op: api.OpRet, A: a} }

func fn(params int, regs int, blocks ...[]api.Ins) api.Fn {
	f := api.Fn{Params: params, Regs: regs, Value: true}
	for _, b := range blocks {
		f.Blocks = append(f.Blocks, api.Block{Ins: b})
	}
	return f
}

func TestRight(t *testing.T) { // P22.1
	f := fn(2, 5, []api.Ins{{Op: api.OpBin, Sub: api.Add, D: 2, A: 0, B: 3}, walk.Const(4, 1), walk.Move(4, 2), ret(4)})
	for k, c := range []struct {
		k      int
		places []int
		right  bool
	}{
		{4, []int{0, 1, 0, 2, 1}, true}, {4, []int{0, 0, 1, 2, 3}, false}, {4, []int{0, 1, 2, 0, 3}, false}, {4, []int{0, 1, 2, 3, 2}, false}, {4, []int{0, 1, 3, 9, 3}, false}, {4, []int{0, 1, 3, 9, 2}, true}, {4, []int{0, -1, 3, 9, 2}, false}, {4, []int{0, 1, 3, 9}, false}, {4, []int{0, 1, 3, 9, 2, 7}, false},
		{0, []int{0, 1, 0, 2, 1}, false}, {65, []int{0, 1, 0, 2, 1}, false}, {64, []int{0, 1, 0, 2, 1}, true}, {1, []int{0, 1, 0, 2, 1}, true},
	} {
		if Right(f, c.k, c.places) != c.right {
			t.Errorf("P22.1: Right, the %d-th", k)
		}
	}
	if Most(f) != 2 || Most(api.Fn{}) != 0 || Right(api.Fn{}, 4, nil) || Places(api.Fn{}, 4) != nil || Places(f, 0) != nil || Places(f, 65) != nil || Most(fn(3, 9, []api.Ins{ret(8)})) != 1 {
		t.Errorf("P22.1: Most %d, and what may not be", Most(f))
	}
	if idle := fn(0, 3, []api.Ins{walk.Const(0, 1), ret(0)}); !Right(idle, 2, []int{0, 0, 0}) {
		t.Error("P22.2: the place of what is never named does not matter")
	}
}

// checked holds the places of a function.
func checked(t *testing.T, f api.Fn) {
	t.Helper()
	for _, k := range []int{1, 2, 4, 10, 64} {
		places := Places(f, k)
		if !Right(f, k, places) {
			t.Fatalf("P22.1: %d: %v", k, places)
		}
		most := 0
		for _, p := range places {
			most = max(most, p)
		}
		if most > k+f.Regs {
			t.Fatalf("P22.1: place %d of %d", most, k+f.Regs)
		}
		if most >= k {
			for m := range k {
				if !slices.Contains(places, m) {
					t.Fatalf("P22.2: register %d of %d stands idle", m, k)
				}
			}
		}
	}
	most := 0
	for b := range f.Blocks {
		for k := range f.Blocks[b].Ins {
			most = max(most, len(live.Behind(f, b, k)))
		}
		most = max(most, len(live.In(f)[b]))
	}
	if f.Regs < 60 && Most(f) != most {
		t.Fatalf("P22.1: Most %d, not %d", Most(f), most)
	}
}

func TestPlaces(t *testing.T) { // P22.1, P22.2
	for seed := range 300 {
		for _, f := range sample.Middle(seed).Fns {
			checked(t, f)
		}
	}
	for seed := range 12 {
		p := alike.Text(sample.Program(seed))
		for _, f := range p.Fns {
			checked(t, f)
		}
		for _, f := range fold.Prog(inline.Prog(p, 200)).Fns {
			checked(t, f)
		}
	}
}

func TestMany(t *testing.T) { // P22.1: many registers, all live at once
	var ins []api.Ins
	const n = 7000
	for r := range n {
		ins = append(ins, walk.Const(r, int64(r)))
	}
	for r := range n - 1 {
		ins = append(ins, api.Ins{Op: api.OpBin, Sub: api.Add, D: 0, A: 0, B: r + 1})
	}
	f := fn(0, n, append(ins, ret(0)))
	if places := Places(f, 8); !Right(f, 8, places) || Most(f) != n {
		t.Error("P22.1: many registers")
	}
	f.Regs = walk.MostRegs
	if places := Places(f, 8); !Right(f, 8, places) {
		t.Error("P22.1: many registers, most of them idle")
	}
}
