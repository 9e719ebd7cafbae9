package cost

import (
	"testing"

	"spokeshave/api"
	"spokeshave/lower"
)

func prog(t *testing.T, s string) api.Prog {
	t.Helper()
	p, w := lower.Prog(s)
	if w.Code != api.OK {
		t.Fatalf("%v of %s", w, s)
	}
	return p
}

func TestMay(t *testing.T) { // P12.1
	p := prog(t, "int one(int a) { return a; } int slot(int a) { &a; return a; } int self(int a) { return a ? self(a) : 1; } int calls(int a) { one(a); return 2; } typedef int F(int); int at(int a, F *f) { return f(a); } int main() { calls(1); one(2); return one(3); }")
	p.Fns[3].Blocks[0].Ins = []api.Ins{{Op: api.OpCall, D: -1, N: 0, Args: []int{0}}, {Op: api.OpTail, N: 0, Args: []int{0}}}
	sizes := []int{1, 6, 0, 2, 2, 0}
	for fn, c := range []struct {
		leaf, may bool
		sites     int
	}{{true, true, 4}, {true, false, 0}, {false, false, 1}, {false, false, 1}, {false, true, 0}, {false, false, 0}} {
		if Leaf(p.Fns[fn]) != c.leaf || May(p, fn, 1000) != c.may || Sites(p, fn) != c.sites {
			t.Errorf("P12.1: function %d: %v, %v, %d", fn, Leaf(p.Fns[fn]), May(p, fn, 1000), Sites(p, fn))
		}
		size := Size(p.Fns[fn])
		if sizes[fn] > 0 && size != sizes[fn] {
			t.Errorf("P12.1: Size of %d: %d", fn, size)
		}
		if May(p, fn, size) != c.may || May(p, fn, size-1) {
			t.Errorf("P12.1: the budget of %d", fn)
		}
	}
	if May(p, -1, 99) || May(p, 6, 99) || Sites(p, 6) != 0 || Sites(p, -1) != 0 || May(api.Prog{}, 0, 99) || Sites(api.Prog{}, 0) != 0 {
		t.Error("P12.1: no such function, no such program")
	}
	if Size(api.Fn{}) != 0 || !Leaf(api.Fn{}) || Leaf(api.Fn{Blocks: []api.Block{{Ins: []api.Ins{{Op: api.OpTailAt}}}}}) {
		t.Error("P12.1: single functions")
	}
	if !Leaf(prog(t, "int main() { return 0; }").Fns[0]) {
		t.Error("P12.1: main alone is a leaf")
	}
}
