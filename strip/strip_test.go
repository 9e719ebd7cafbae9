package strip

import (
	"reflect"
	"slices"
	"testing"

	"spokeshave/alike"
	"spokeshave/api"
	"spokeshave/consts"
	"spokeshave/fold"
	"spokeshave/inline"
	"spokeshave/ir"
)

func names(p api.Prog) []string {
	var out []string
	for _, f := range p.Fns {
		out = append(out, f.Name)
	}
	return out
}

func TestFunctions(t *testing.T) { // P19.1
	p := alike.Text("typedef int F(int); int no(int a) { return no(a); } int a(int x) { return x; } int b(int x) { return a(x); } int held(int x) { return x + 1; } F *h[2] = {0, held}; int lost(int x) { F *k = b; return k(x); } int end(int x) { return x; } int main() { F *k = end; return h[1](2) * k(3); }")
	if got := Left(p); got != 2 {
		t.Errorf("P19.1: Left %d", got)
	}
	q := Prog(p)
	if !slices.Equal(names(q), []string{"held", "end", "main"}) || q.Main != 2 || q.Globals[0].Pieces[0].Func != 1 || Left(q) != 0 {
		t.Errorf("P19.1: %v, %d left", names(q), Left(q))
	}
	if wrong := alike.Pass(p, "", Prog); wrong != "" {
		t.Errorf("P19.2: %s", wrong)
	}
	if Left(api.Prog{}) != 0 || !reflect.DeepEqual(Prog(api.Prog{}), api.Prog{}) {
		t.Error("P19.2: a program that may not be")
	}
}

func TestParams(t *testing.T) { // P19.1
	p := alike.Text("typedef int F(int, int); int in(int a, int b, int c) { a = 5; return a * 10 + b; } int mid(int a, int b, int c) { return in(a, b, c); } int over(int a, int b, int c) { return mid(a, b, c); } int held(int a, int b) { return b; } F *h = held; int rec(int a, int b) { return b ? rec(a, b - 1) : 7; } int main() { putbyte(rec(1, 2)); return over(1, 2, 3) + h(4, 5) + held(6, 7); }")
	q := Prog(p)
	var params []int
	for _, f := range q.Fns {
		params = append(params, f.Params)
	}
	if !slices.Equal(params, []int{1, 1, 1, 2, 2, 0}) || Left(q) != 0 || Left(p) != 2 {
		t.Errorf("P19.1: %v, %d, %d left", params, Left(p), Left(q))
	}
	if wrong := alike.Pass(p, "", Prog); wrong != "" || !ir.Same(Prog(q), q) {
		t.Errorf("P19.2: %s", wrong)
	}
}

func TestSamples(t *testing.T) { // P19.1, P19.2
	for seed := range 80 {
		p, ok := alike.Sample(seed, "in")
		if !ok {
			continue
		}
		if seed%2 == 1 {
			p = fold.Prog(inline.Prog(consts.Prog(p), 99))
		}
		if wrong := alike.Pass(p, "in", Prog); wrong != "" {
			t.Fatalf("P19.2: seed %d: %s", seed, wrong)
		}
		if q := Prog(p); Left(q) != 0 || !reflect.DeepEqual(len(q.Globals), len(p.Globals)) {
			t.Fatalf("P19.1: seed %d: %d left", seed, Left(q))
		}
	}
}
