package inline

import (
	"math"
	"reflect"
	"testing"

	"spokeshave/alike"
	"spokeshave/api"
	"spokeshave/cost"
	"spokeshave/flow"
	"spokeshave/fold"
	"spokeshave/ir"
	"spokeshave/walk"
)

func calls(f api.Fn) int {
	n := 0
	for _, b := range f.Blocks {
		for _, i := range b.Ins {
			if walk.Calls(i.Op) {
				n++
			}
		}
	}
	return n
}

const head = "typedef int F(int); int one(int a) { return a + 1; } int two(int a) { return one(a) + one(a + 1); } int self(int a) { return a ? self(one(a) - 2) : 1; } int slot(int a) { &a; return a; } void out(int a) { putbyte(a); } int loop(int n) { int s; s = 0; while (n) { s += n; n -= 1; } return s; } int early(int a) { if (a) return 3; out(a); return 4; } int open(int a) { if (a) return 5; } F *h = one; "

func TestCalls(t *testing.T) { // P18.1
	for body, c := range map[string]struct{ left, stay int }{
		"return one(1) * 10 + one(2);": {2, 0}, "return two(3);": {0, 0}, "return self(3);": {0, 1}, "return slot(3);": {0, 1}, "out(65); out(66); return 1;": {2, 0}, "return loop(4) + loop(5) * 2;": {2, 0}, "return early(0) * 10 + early(1);": {0, 0},
		"open(0); return open(1);": {2, 0}, "return h(1);": {0, 1}, "int i; int s = 0; for (i = 0; i < 5; i += 1) s += loop(i) + one(s); return s;": {2, 0}, "one(one(one(1))); return one(2) ? one(3) : one(4);": {6, 0},
	} {
		p := alike.Text(head + "int main() {" + body + "}")
		if got := Left(p, 50); got != c.left+4 {
			t.Errorf("P18.1: %s: Left %d", body, got)
		}
		pass := func(p api.Prog) api.Prog { return Prog(p, 50) }
		q := pass(p)
		if wrong := alike.Pass(p, "", pass); wrong != "" || Left(q, 50) != 0 || calls(q.Fns[p.Main]) != c.stay {
			t.Errorf("P18.1: %s: %s, %d left, %d stay", body, wrong, Left(q, 50), calls(q.Fns[p.Main]))
		}
		for k, f := range q.Fns {
			if f.Name != p.Fns[k].Name || f.Params != p.Fns[k].Params || f.Value != p.Fns[k].Value {
				t.Errorf("P18.1: %s: function %d", body, k)
			}
		}
		for _, budget := range []int{-1, 0, 1} {
			if r := Prog(p, budget); !ir.Same(p, r) || Left(p, budget) != 0 {
				t.Errorf("P18.1: %s: budget %d", body, budget)
			}
		}
	}
	if Left(api.Prog{}, 9) != 0 || !reflect.DeepEqual(Prog(api.Prog{}, 9), api.Prog{}) {
		t.Error("P18.2: a program that may not be")
	}
}

func TestBudget(t *testing.T) { // P18.1: what is too large of p is not laid in
	p := alike.Text(head + "int main() { return two(loop(3)) + one(1); }")
	small := cost.Size(p.Fns[0])
	q := Prog(p, small)
	if calls(q.Fns[p.Main]) != 2 || Left(q, small) != 0 || calls(q.Fns[1]) != 0 {
		t.Errorf("P18.1: %d calls stay", calls(q.Fns[p.Main]))
	}
}

func TestRegs(t *testing.T) { // P18.2: what is made may be, also with many registers
	p := alike.Text(head + "int main() { return one(1) + loop(5); }")
	for k := range p.Fns {
		p.Fns[k].Regs = walk.MostRegs
	}
	q := Prog(p, 99)
	if !ir.Check(q) || Left(q, 99) != 0 || !alike.Runs(p, q, "", 200) {
		t.Errorf("P18.2: %d left", Left(q, 99))
	}
	zero := alike.Text("int f(int a) { int x; if (a) x = 3; return x; } int main() { return 0; }")
	zero.Fns[1].Blocks[0].Ins = []api.Ins{walk.Const(0, 1), {Op: api.OpCall, D: 1, N: 0, Args: []int{0}}, walk.Const(0, 0), {Op: api.OpCall, D: 1, N: 0, Args: []int{0}}, {Op: api.OpRet, A: 1}}
	zero.Fns[1].Regs = 2
	if got := ir.Run(Prog(zero, 99), nil, 99); got.Kind != api.Exited || got.Code != 0 {
		t.Errorf("P18.2: registers are 0 at first: %v", got)
	}
}

func TestSamples(t *testing.T) { // P18.1, P18.2
	for seed := range 80 {
		p, ok := alike.Sample(seed, "in")
		if !ok {
			continue
		}
		if seed%2 == 1 {
			p = flow.Prog(fold.Prog(p))
		}
		for _, budget := range []int{8, 60, 1000} {
			pass := func(p api.Prog) api.Prog { return Prog(p, budget) }
			if wrong := alike.Pass(p, "in", pass); wrong != "" {
				t.Fatalf("P18.2: seed %d: %s", seed, wrong)
			}
			q := pass(p)
			bound := float64(ir.Count(p)) * math.Pow(float64(budget+9), float64(len(p.Fns)))
			if Left(q, budget) != 0 || float64(ir.Count(q)) > bound {
				t.Fatalf("P18.1: seed %d: %d left", seed, Left(q, budget))
			}
		}
	}
}
