package tail

import (
	"reflect"
	"testing"

	"spokeshave/alike"
	"spokeshave/api"
	"spokeshave/fold"
	"spokeshave/inline"
	"spokeshave/ir"
	"spokeshave/sample"
	"spokeshave/walk"
)

func ops(p api.Prog, op int) int {
	n := 0
	for _, f := range p.Fns {
		for _, b := range f.Blocks {
			for _, i := range b.Ins {
				if i.Op == op {
					n++
				}
			}
		}
	}
	return n
}

func TestCalls(t *testing.T) { // P20.1, P20.2
	head := "typedef int F(int, int); int odd(int n); int even(int n) { if (n == 0) return 1; return odd(n - 1); } int odd(int n) { if (n == 0) return 0; return even(n - 1); } int gcd(int a, int b) { return b ? gcd(b, a % b) : a; } int six(int a, int b, int c, int d, int e, int f) { if (a == 0) return b + 2 * c + 3 * d + 4 * e + 5 * f; return six(a - 1, c, b, e, f, d); } void out(int n) { if (n == 0) return; putbyte(n); out(n - 1); } int slot(int n) { &n; if (n == 0) return 3; return slot(n - 1); } F *h = gcd; int at(int a, int b) { return h(a, b); } "
	for body, c := range map[string]struct{ at, code int }{
		"return even(7);": {1, 0}, "return gcd(48, 18) + 1;": {1, 7}, "return six(5, 1, 2, 3, 4, 5);": {1, 0}, "out(5); return 2;": {1, 2}, "return slot(4);": {1, 3}, "return at(48, 18);": {1, 6}, "int x; x = even(3); return x + 1;": {1, 1}, "return h(48, 18);": {2, 6},
	} {
		p := fold.Prog(alike.Text(head + "int main() {" + body + "}"))
		q := Prog(p)
		if wrong := alike.Pass(p, "", Prog); wrong != "" || Left(q) != 0 {
			t.Errorf("P20.2: %s: %s, %d left", body, wrong, Left(q))
		}
		if ops(q, api.OpTailAt) != c.at || ir.Run(q, nil, 9999).Code != ir.Run(p, nil, 9999).Code {
			t.Errorf("P20.1: %s: %d calls at an address, %v", body, ops(q, api.OpTailAt), ir.Run(q, nil, 9999))
		}
		if c.code > 0 && ir.Run(q, nil, 9999).Code != c.code {
			t.Errorf("P20.2: %s: %v", body, ir.Run(q, nil, 9999))
		}
	}
	if Left(api.Prog{}) != 0 || !reflect.DeepEqual(Prog(api.Prog{}), api.Prog{}) {
		t.Error("P20.2: a program that may not be")
	}
}

func TestDepth(t *testing.T) { // P20.2: more than 1,000 calls at the end
	p := alike.Text("int odd(int n); int even(int n) { if (n == 0) return 1; return odd(n - 1); } int odd(int n) { if (n == 0) return 0; return even(n - 1); } int sum(int n, int s) { if (n == 0) return s; return sum(n - 1, s + 1); } int main() { return sum(9000, 0) - 8990 + even(3000); }")
	q := Prog(p)
	if got := ir.Run(q, nil, api.MaxFuel); got.Kind != api.Exited || got.Code != 11 || ir.Run(p, nil, api.MaxFuel).Kind != api.OutOfFuel {
		t.Errorf("P20.2: %v", got)
	}
}

func TestLeft(t *testing.T) { // P20.1
	call := func(d int) api.Ins { return api.Ins{Op: api.OpCall, D: d, N: 1} }
	ret := func(a int) api.Ins { return api.Ins{Op: api.OpRet, A: a} }
	for k, c := range []struct {
		value bool
		slots []int
		ins   []api.Ins
		left  int
	}{
		{true, nil, []api.Ins{call(0), ret(0)}, 1}, {true, nil, []api.Ins{call(0), ret(1)}, 0}, {true, nil, []api.Ins{call(-1), ret(-1)}, 0}, {false, nil, []api.Ins{call(-1), ret(-1)}, 1}, {false, nil, []api.Ins{call(0), ret(-1)}, 1}, {true, []int{4}, []api.Ins{call(0), ret(0)}, 0},
		{true, nil, []api.Ins{call(0), walk.Move(1, 0), ret(0)}, 0}, {true, nil, []api.Ins{{Op: api.OpCallAt, D: 0, A: 0}, ret(0)}, 0}, {true, nil, []api.Ins{{Op: api.OpTail, N: 2}}, 1}, {true, nil, []api.Ins{{Op: api.OpTail, N: 1}}, 0}, {true, []int{4}, []api.Ins{{Op: api.OpTail, N: 2}}, 1},
	} {
		f := api.Fn{Regs: 2, Value: c.value, Slots: c.slots, Blocks: []api.Block{{Ins: c.ins}}}
		g := api.Fn{Regs: 1, Value: true, Blocks: []api.Block{{Ins: []api.Ins{ret(0)}}}}
		p := api.Prog{Fns: []api.Fn{{Value: true, Blocks: []api.Block{{Ins: []api.Ins{ret(-1)}}}}, g, f}}
		if q := Prog(p); Left(p) != c.left || Left(q) != 0 || !ir.Check(q) {
			t.Errorf("P20.1: the %d-th: %d, %d", k, Left(p), Left(q))
		}
	}
}

func TestSlots(t *testing.T) { // a tail call of its own function begins with zeros in its slots
	w := api.Width{Bits: 64}
	f := api.Fn{Params: 1, Regs: 4, Slots: []int{8, 21}, Value: true, Blocks: []api.Block{
		{Ins: []api.Ins{{Op: api.OpSlot, D: 1, N: 1}, walk.Const(2, 13), {Op: api.OpBin, Sub: api.Add, D: 1, A: 1, B: 2}, {Op: api.OpLoad, D: 2, A: 1, W: w}, {Op: api.OpBranch, A: 0, To: []int{1, 2}}}},
		{Ins: []api.Ins{{Op: api.OpStore, A: 1, B: 0, W: w}, walk.Const(3, 1), {Op: api.OpBin, Sub: api.Sub, D: 3, A: 0, B: 3}, {Op: api.OpTail, N: 1, Args: []int{3}}}},
		{Ins: []api.Ins{{Op: api.OpRet, A: 2}}},
	}}
	main := api.Fn{Regs: 1, Value: true, Blocks: []api.Block{{Ins: []api.Ins{walk.Const(0, 3), {Op: api.OpTail, N: 1, Args: []int{0}}}}}}
	p := api.Prog{Fns: []api.Fn{main, f}}
	q := Prog(p)
	a, b := ir.Run(p, nil, 999), ir.Run(q, nil, 999)
	if a.Kind != api.Exited || a.Code != 0 || b.Kind != a.Kind || b.Code != a.Code || Left(q) != 0 {
		t.Errorf("P20.1: %v, %v", a, b)
	}
}

func TestSamples(t *testing.T) { // P20.1, P20.2
	for seed := range 80 {
		p, ok := alike.Sample(seed, "in")
		if !ok {
			continue
		}
		if seed%2 == 1 {
			p = fold.Prog(inline.Prog(p, 99))
		}
		if wrong := alike.Pass(p, "in", Prog); wrong != "" {
			t.Fatalf("P20.2: seed %d: %s", seed, wrong)
		}
		if q := Prog(p); Left(q) != 0 || !ir.Same(Prog(q), q) {
			t.Fatalf("P20.1: seed %d: %d left", seed, Left(q))
		}
	}
}

func TestMiddle(t *testing.T) { // P20.2: of any program that touches no memory
	ended := 0
	for seed := range 1500 {
		p := sample.Middle(seed)
		if !ir.Check(p) {
			t.Fatalf("seed %d: no program", seed)
		}
		if wrong := alike.Pass(p, "some input", Prog); wrong != "" {
			t.Fatalf("P20.2: seed %d: %s", seed, wrong)
		}
		if Left(Prog(p)) != 0 {
			t.Fatalf("seed %d: %d left", seed, Left(Prog(p)))
		}
		if ir.Run(p, []byte("some input"), 9999).Kind == api.Exited {
			ended++
		}
	}
	if ended < 250 {
		t.Errorf("only %d came to their end", ended)
	}
}
