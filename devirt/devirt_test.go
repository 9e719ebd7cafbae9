package devirt

import (
	"reflect"
	"testing"

	"spokeshave/alike"
	"spokeshave/api"
	"spokeshave/fold"
	"spokeshave/ir"
)

// ops counts the instructions of an operation.
func ops(p api.Prog, op int) int {
	n := 0
	for _, f := range p.Fns {
		for _, b := range f.Blocks {
			for _, i := range b.Ins {
				if i.Op == op {
					n++
				}
			}
		}
	}
	return n
}

func TestCalls(t *testing.T) { // P16.1
	head := "typedef int F(int); typedef void V(int); int a(int x) { return x + 1; } int b(int x) { return x; } void v(int x) { putbyte(x); } F *h; F *id(F *x) { return x; } typedef F *R(F*); "
	for body, c := range map[string]struct{ left, stay int }{
		"F *f = a; return f(1);": {1, 0}, "F *f = getbyte() ? a : b; return f(1);": {0, 1}, "h = b; return h(1) + (*h)(2);": {2, 0}, "R *r = id; return r(a)(1);": {2, 0}, "return 1;": {0, 0}, "V *w = v; w(65); return h ? h(1) : 2;": {1, 1},
	} {
		p := alike.Text(head + "int main() {" + body + "}")
		if got := Left(p); got != c.left {
			t.Errorf("P16.1: %s: Left %d", body, got)
		}
		q := Prog(p)
		if wrong := alike.Pass(p, "", Prog); wrong != "" || Left(q) != 0 || ir.Count(q) != ir.Count(p) || ops(q, api.OpCallAt) != c.stay || !ir.Same(q, Prog(q)) {
			t.Errorf("P16.1: %s: %s, %d left, %d stay", body, wrong, Left(q), ops(q, api.OpCallAt))
		}
	}
	if Left(api.Prog{}) != 0 || !reflect.DeepEqual(Prog(api.Prog{}), api.Prog{}) {
		t.Error("P16.2: a program that may not be")
	}
}

func TestValue(t *testing.T) { // P16.1: one that has Value, where one is wanted
	ret := api.Ins{Op: api.OpRet, A: -1}
	p := api.Prog{Fns: []api.Fn{
		{Regs: 2, Value: true, Blocks: []api.Block{{Ins: []api.Ins{{Op: api.OpFunc, D: 0, N: 1}, {Op: api.OpCallAt, D: 1, A: 0}, {Op: api.OpCallAt, D: -1, A: 0}, {Op: api.OpTailAt, A: 0}}}}},
		{Blocks: []api.Block{{Ins: []api.Ins{ret}}}},
		{Regs: 1, Blocks: []api.Block{{Ins: []api.Ins{{Op: api.OpFunc, D: 0, N: 1}, {Op: api.OpTailAt, A: 0}}}}},
	}}
	q := Prog(p)
	if Left(p) != 2 || Left(q) != 0 || !ir.Check(q) || ops(q, api.OpCallAt) != 1 || ops(q, api.OpTailAt) != 1 || ops(q, api.OpTail) != 1 || q.Fns[0].Blocks[0].Ins[2].Op != api.OpCall || q.Fns[0].Blocks[0].Ins[2].D != -1 {
		t.Errorf("P16.1: %d, %v", Left(p), q)
	}
}

func TestSamples(t *testing.T) { // P16.1, P16.2
	for seed := range 80 {
		p, ok := alike.Sample(seed, "in")
		if !ok {
			continue
		}
		if seed%2 == 1 {
			p = fold.Prog(p)
		}
		if wrong := alike.Pass(p, "in", Prog); wrong != "" {
			t.Fatalf("P16.2: seed %d: %s", seed, wrong)
		}
		if q := Prog(p); Left(q) != 0 || ir.Count(q) != ir.Count(p) {
			t.Fatalf("P16.1: seed %d: %d left", seed, Left(q))
		}
	}
}
