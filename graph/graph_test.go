package graph

import (
	"reflect"
	"slices"
	"testing"

	"spokeshave/api"
	"spokeshave/lower"
)

func prog(t *testing.T, s string) api.Prog {
	t.Helper()
	p, w := lower.Prog(s)
	if w.Code != api.OK {
		t.Fatalf("%v of %s", w, s)
	}
	return p
}

func TestGraph(t *testing.T) { // P10.1
	p := prog(t, `typedef int F(int); typedef int G();
int far(int a); int near(int a) { return a ? far(a) : 1; } int far(int a) { return near(a - 1); }
int one(int a) { return a; } int two(int a) { return one(a); } int none() { return 1; } int lost(int a) { &none; return lost(a); } int void0() { return 2; }
F *h = two; G *k; int at(int a) { return h(a); } int self(int a) { return a ? self(a) : 1; }
int main() { near(1); at(2); k = void0; return self(3); }`)
	// near 0, far 1, one 2, two 3, none 4, lost 5, void0 6, at 7, self 8, main 9
	if got := Taken(p); !slices.Equal(got, []int{3, 4, 6}) {
		t.Errorf("P10.1: Taken %v", got)
	}
	if got := Calls(p); !reflect.DeepEqual(got, [][]int{{1}, {0}, nil, {2}, nil, {5}, nil, {3}, {8}, {0, 7, 8}}) {
		t.Errorf("P10.1: Calls %v", got)
	}
	if got := Parts(p); !reflect.DeepEqual(got, [][]int{{0, 1}, {2}, {3}, {4}, {5}, {6}, {7}, {8}, {9}}) {
		t.Errorf("P10.1: Parts %v", got)
	}
	if got := Reach(p); !slices.Equal(got, []int{0, 1, 2, 3, 6, 7, 8, 9}) {
		t.Errorf("P10.1: Reach %v", got)
	}
	if got := Cyclic(p); !slices.Equal(got, []int{0, 1, 5, 8}) {
		t.Errorf("P10.1: Cyclic %v", got)
	}
}

func TestOrder(t *testing.T) { // P10.1: of those that may come next the one with the least function
	p := prog(t, "int d(int a); int c(int a); int a(int x) { return d(x); } int b(int x) { return x; } int c(int x) { return b(x); } int d(int x) { return c(x); } int main() { return a(1); }")
	if got := Parts(p); !reflect.DeepEqual(got, [][]int{{1}, {2}, {3}, {0}, {4}}) {
		t.Errorf("P10.1: Parts %v", got)
	}
	q := prog(t, "int z(int x); int a(int x) { return z(x); } int b(int x) { return x; } int z(int x) { return x; } int main() { return a(b(1)); }")
	if got := Parts(q); !reflect.DeepEqual(got, [][]int{{1}, {2}, {0}, {3}}) {
		t.Errorf("P10.1: Parts %v", got)
	}
}

func TestParams(t *testing.T) { // P10.1: an OpCallAt calls those that take as many
	p := prog(t, "typedef int F(int); typedef int G(); int a(int x) { return x; } int b() { return 1; } F *f = a; G *g = b; int c() { return g(); } int d() { G *k; F *m; return k() + m(1); } int main() { return c() + d(); }")
	if got := Calls(p); !reflect.DeepEqual(got, [][]int{nil, nil, {1}, {0, 1}, {2, 3}}) {
		t.Errorf("P10.1: Calls %v", got)
	}
	if got := Cyclic(prog(t, "typedef int F(); F *f; int main() { f = main; return f(); }")); !slices.Equal(got, []int{0}) {
		t.Errorf("P10.1: Cyclic %v", got)
	}
}

func TestNone(t *testing.T) { // P10.1
	var p api.Prog
	if Taken(p) != nil || Calls(p) != nil || Parts(p) != nil || Reach(p) != nil || Cyclic(p) != nil {
		t.Error("P10.1: a program that may not be")
	}
}
