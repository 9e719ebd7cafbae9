package point

import (
	"slices"
	"testing"

	"spokeshave/api"
	"spokeshave/lower"
	"spokeshave/walk"
)

func prog(t *testing.T, s string) api.Prog {
	t.Helper()
	p, w := lower.Prog(s)
	if w.Code != api.OK {
		t.Fatalf("%v of %s", w, s)
	}
	return p
}

// targets are those of the first call at an address in the last function.
func targets(p api.Prog) []int {
	fn := len(p.Fns) - 1
	for b := range p.Fns[fn].Blocks {
		for k, i := range p.Fns[fn].Blocks[b].Ins {
			if i.Op == api.OpCallAt || i.Op == api.OpTailAt {
				return Targets(p, fn, b, k)
			}
		}
	}
	return []int{-1}
}

func TestTargets(t *testing.T) { // P11.1
	head := "typedef int F(int); typedef F *R(F*); struct P { F *f; int k; struct P *n; }; F *h; F *w[3]; struct P p; int a(int x) { return x; } int b(int x) { return x; } int two(int x, int y) { return x; } F *id(F *x) { return x; } F *pick(int n) { if (n) return a; return b; } void put(F **q, F *x) { *q = x; } F *back(F *x) { return id(x); } "
	for body, want := range map[string][]int{
		"F *f = a; return f(1);": {0}, "F *f = a; F *g = b; return g(1);": {1}, "F *f = getbyte() ? a : b; return f(1);": {0, 1}, "h = b; return h(1);": {1}, "return h(1);": nil, "w[1] = a; return w[2](1);": {0}, "p.f = a; return (&p)->f(1);": {0},
		"return id(b)(1);": {1}, "return pick(0)(1);": {0, 1}, "F *f; put(&f, a); return f(1);": {0}, "return back(a)(1);": {0}, "R *r = id; F *f = r(b); return f(2);": {3}, "struct P s; s.n = &s; s.n->f = b; return s.f(1);": {1}, "F *f = a; F **q = &f; *q = b; return f(1);": {0, 1},
	} {
		if got := targets(prog(t, head+"int main() {"+body+"}")); !slices.Equal(got, want) {
			t.Errorf("P11.1: %s: %v", body, got)
		}
	}
	if got := targets(prog(t, "typedef int F(int); int a(int x) { return x; } F *w[2] = {0, a}; int main() { return w[0](1); }")); !slices.Equal(got, []int{0}) {
		t.Errorf("P11.1: pieces: %v", got)
	}
}

func TestHas(t *testing.T) { // P11.1
	i64 := api.Width{Bits: 64, Signed: true}
	i32 := api.Width{Bits: 32, Signed: true}
	ins := []api.Ins{
		{Op: api.OpSlot, D: 0, N: 1}, {Op: api.OpGlobal, D: 1, N: 0}, {Op: api.OpFunc, D: 2, N: 1}, {Op: api.OpBin, Sub: api.Xor, D: 3, A: 0, B: 2}, {Op: api.OpBin, Sub: api.Eq, D: 4, A: 0, B: 2}, {Op: api.OpExt, D: 5, A: 3, W: i64}, {Op: api.OpExt, D: 6, A: 3, W: i32},
		{Op: api.OpStore, A: 0, B: 1, W: i64}, {Op: api.OpStore, A: 0, B: 2, W: i32}, {Op: api.OpLoad, D: 7, A: 5, W: i64}, {Op: api.OpLoad, D: 8, A: 5, W: i32}, {Op: api.OpCall, D: 9, N: 1, Args: []int{2, 7}}, {Op: api.OpTail, N: 2},
	}
	p := api.Prog{Globals: []api.Global{{Size: 8}}, Fns: []api.Fn{
		{Regs: 11, Slots: []int{4, 8}, Value: true, Blocks: []api.Block{{Ins: ins}}},
		{Params: 2, Regs: 3, Value: true, Blocks: []api.Block{{Ins: []api.Ins{walk.Move(2, 1), {Op: api.OpRet, A: 2}}}}},
		{Regs: 1, Value: true, Blocks: []api.Block{{Ins: []api.Ins{{Op: api.OpFunc, D: 0, N: 0}, {Op: api.OpRet, A: 0}}}}},
	}}
	g, s, f := Thing{Global, 0, 0}, Thing{Slot, 0, 1}, Thing{Func, 0, 1}
	total := 0
	for r, want := range [][]Thing{{s}, {g}, {f}, {f, s}, nil, {f, s}, nil, {g}, nil, {g}, nil} {
		if got := Has(p, 0, r); !slices.Equal(got, want) {
			t.Errorf("P11.1: register %d has %v", r, got)
		}
		total += len(want)
	}
	if !slices.Equal(Has(p, 1, 0), []Thing{f}) || !slices.Equal(Has(p, 1, 1), []Thing{g}) || !slices.Equal(Has(p, 1, 2), []Thing{g}) {
		t.Error("P11.1: what is handed on")
	}
	if got := Size(p); got != total+4 {
		t.Errorf("P11.1: Size %d, not %d", got, total+4)
	}
	for i, got := range [][]Thing{Has(p, 3, 0), Has(p, -1, 0), Has(p, 0, 11), Has(p, 0, -1), Has(api.Prog{}, 0, 0)} {
		if got != nil {
			t.Errorf("P11.1: none, the %d-th: %v", i, got)
		}
	}
	for i, got := range [][]int{Targets(p, 0, 0, 0), Targets(p, 9, 0, 0), Targets(p, 0, 1, 0), Targets(p, 0, 0, 13), Targets(p, 0, 0, -1), Targets(p, 0, -1, 0), Targets(api.Prog{}, 0, 0, 0)} {
		if got != nil {
			t.Errorf("P11.1: no targets, the %d-th: %v", i, got)
		}
	}
	if Size(api.Prog{}) != 0 {
		t.Error("P11.1: Size of a program that may not be")
	}
}
