package consts

import (
	"reflect"
	"slices"
	"testing"

	"spokeshave/alike"
	"spokeshave/api"
	"spokeshave/fold"
	"spokeshave/ir"
	"spokeshave/live"
	"spokeshave/walk"
)

const head = "typedef int F(int); int f(int a) { return a + 1; } int g(int a, int b) { return b ? a : g(a - 1, b); } int h(int a) { return a; } int un(int a) { return a; } int lp(int a, int n) { l: if (n) { n -= 1; goto l; } return a; } "

func TestArgs(t *testing.T) { // P17.1
	for body, want := range map[string][]Arg{
		"return f(3) + f(3);": {{0, 0, 3}}, "return f(3) + f(4);": nil, "return f(getbyte());": nil, "return f(1 + 2) + f(3);": {{0, 0, 3}}, "return 1;": nil, "return g(5, 1);": nil, "return h(1) + f(2);": {{0, 0, 2}, {2, 0, 1}}, "F *k = h; return h(1) + k(1);": nil,
		"return lp(-1, 0) + lp(-1, 1);": {{4, 0, -1}}, "int x = 3; return f(x);": {{0, 0, 3}}, "int x = 3; if (getbyte()) return f(x); return f(3);": nil, "return lp(7, 9);": {{4, 0, 7}, {4, 1, 9}}, "f(f(3)); return 1;": nil,
	} {
		p := alike.Text(head + "int main() {" + body + "}")
		if got := Args(p); !slices.Equal(got, want) {
			t.Errorf("P17.1: %s: %v", body, got)
		}
		q := Prog(p)
		for _, a := range want {
			if slices.Contains(live.In(q.Fns[a.Fn])[0], a.Param) {
				t.Errorf("P17.1: %s: a parameter is read as it was handed", body)
			}
		}
		if wrong := alike.Pass(p, "x", Prog); wrong != "" || len(q.Fns) != len(p.Fns) || q.Fns[4].Params != 2 || !ir.Same(Prog(q), q) {
			t.Errorf("P17.2: %s: %s", body, wrong)
		}
		if want == nil && !ir.Same(p, q) {
			t.Errorf("P17.1: %s: nothing is brought in", body)
		}
	}
	if Args(api.Prog{}) != nil || !reflect.DeepEqual(Prog(api.Prog{}), api.Prog{}) || !reflect.DeepEqual(Clone(api.Prog{}, 9), api.Prog{}) {
		t.Error("P17.2: a program that may not be")
	}
}

func TestLoop(t *testing.T) { // P17.2: a function whose beginning is come to again
	p := alike.Text(head + "int main() { return lp(7, 3); }")
	p.Fns[4].Blocks = []api.Block{
		{Ins: []api.Ins{{Op: api.OpBranch, A: 1, To: []int{1, 2}}}}, {Ins: []api.Ins{walk.Const(2, 1), {Op: api.OpBin, Sub: api.Sub, D: 1, A: 1, B: 2}, {Op: api.OpBin, Sub: api.Add, D: 0, A: 0, B: 2}, walk.Jump(0)}}, {Ins: []api.Ins{{Op: api.OpRet, A: 0}}},
	}
	p.Fns[4].Regs = 3
	if wrong := alike.Pass(p, "", Prog); wrong != "" || ir.Run(p, nil, 99).Code != 10 {
		t.Errorf("P17.2: %s", wrong)
	}
}

func TestClone(t *testing.T) { // P17.1
	p := alike.Text(head + "int main() { return f(3) + f(4) + f(4) + f(5) + f(getbyte()); }")
	for most, want := range map[int]int{-1: 0, 0: 0, 1: 1, 2: 2, 3: 3, 99: 3} {
		q := Clone(p, most)
		if len(q.Fns) != len(p.Fns)+want || !alike.Runs(p, q, "x", 99) {
			t.Errorf("P17.1: Clone with %d: %d more", most, len(q.Fns)-len(p.Fns))
		}
		for k := range q.Fns[:4] {
			if q.Fns[k].Name != p.Fns[k].Name || q.Fns[k].Params != p.Fns[k].Params {
				t.Errorf("P17.1: function %d does not stand where it stood", k)
			}
		}
	}
	if got := Args(Clone(p, 9)); len(got) != 3 {
		t.Errorf("P17.1: what copies are handed: %v", got)
	}
}

func TestSamples(t *testing.T) { // P17.1, P17.2
	for seed := range 80 {
		p, ok := alike.Sample(seed, "in")
		if !ok {
			continue
		}
		if seed%2 == 1 {
			p = fold.Prog(p)
		}
		for _, pass := range []func(api.Prog) api.Prog{Prog, func(p api.Prog) api.Prog { return Clone(p, 5) }, func(p api.Prog) api.Prog { return Prog(Clone(p, 50)) }} {
			if wrong := alike.Pass(p, "in", pass); wrong != "" {
				t.Fatalf("P17.2: seed %d: %s", seed, wrong)
			}
		}
		q := Prog(p)
		for _, a := range Args(p) {
			if slices.Contains(live.In(q.Fns[a.Fn])[0], a.Param) {
				t.Fatalf("P17.1: seed %d: %v", seed, a)
			}
		}
	}
}
