package drive

import (
	"bytes"
	"slices"
	"testing"

	"spokeshave/api"
	"spokeshave/ir"
	"spokeshave/lower"
	"spokeshave/run"
	"spokeshave/sample"
	"spokeshave/sema"
	"spokeshave/x86"
)

func TestSets(t *testing.T) { // P25.1
	sets := Sets(9)
	if len(sets) != 16 || sets[0] != (api.Flags{Budget: 9}) || sets[1] != (api.Flags{Fold: true, Budget: 9}) || sets[7] != (api.Flags{Tail: true, Budget: 9}) || sets[15] != All(9) {
		t.Errorf("P25.1: %v", sets)
	}
	want := All(9)
	want.Flow = false
	if sets[9] != want || All(-3).Budget != -3 {
		t.Errorf("P25.1: %v", sets[9])
	}
	for k, f := range sets {
		if slices.Index(sets, f) != k {
			t.Errorf("P25.1: the %d-th comes twice", k)
		}
	}
}

func TestWrong(t *testing.T) { // P25.1
	for _, s := range []string{"", "int main() { return x; }", "int", "int a = &a; int main() {}", "$"} {
		text, w := Compile(s, All(9))
		p, v := Middle(s, All(9))
		if w != sema.Check(s) || v != w || text != "" || len(p.Fns) != 0 || Bound(s, All(9)) != 0 {
			t.Errorf("P25.1: %q: %v, %v", s, w, v)
		}
	}
	s := "int main() { return 3; }"
	p, _ := Middle(s, api.Flags{Budget: 7})
	if q, _ := lower.Prog(s); !ir.Same(p, q) {
		t.Error("P25.1: no pass is on")
	}
}

// holds compares a text's run with what it is compiled to, with some flags.
func holds(t *testing.T, s string, input string, steps int, f api.Flags, want api.Outcome) {
	t.Helper()
	p, w := Middle(s, f)
	if w.Code != api.OK || !ir.Check(p) {
		t.Fatalf("P25.2: %v: %v", f, w)
	}
	got := ir.Run(p, []byte(input), min(320*steps+18000, api.MaxFuel))
	if got.Kind != want.Kind || got.Code != want.Code || !bytes.Equal(got.Out, want.Out) {
		t.Fatalf("P25.2: %v: Middle comes to %v, not %v, of\n%.4000s", f, got, want, s)
	}
	text, _ := Compile(s, f)
	c, w := x86.Read(text)
	if w.Code != api.OK {
		t.Fatalf("P25.2: %v: %v", f, w)
	}
	stacks := []int{api.MinStack, api.MaxStack}
	bound := Bound(s, f)
	if bound > 0 {
		stacks = append(stacks, bound)
	}
	for _, stack := range stacks {
		got := c.Run([]byte(input), min(12800*steps+100000, 16*api.MaxFuel), stack)
		exact := got.Kind == want.Kind && got.Code == want.Code && bytes.Equal(got.Out, want.Out)
		over := got.Kind == api.Overflow && bytes.HasPrefix(want.Out, got.Out) && stack != bound
		if !exact && !over {
			t.Fatalf("P25.2: %v, %d bytes: the machine comes to %v, not %v, of\n%.4000s", f, stack, got, want, s)
		}
	}
}

func TestSamples(t *testing.T) { // P25.2, P25.3
	for seed := range 24 {
		s := sample.Program(1000 + seed)
		if seed%2 == 1 {
			s = sample.Typed(seed)
		}
		want := run.Program(s, []byte("some"), 20000)
		if want.Kind != api.Exited {
			continue
		}
		steps := run.Steps(s, []byte("some"), 20000)
		for _, f := range Sets(20 + seed*9) {
			holds(t, s, "some", steps, f, want)
		}
	}
}

func TestPasses(t *testing.T) { // P25.1: what the passes are for
	s := "typedef int F(int); int g(int x) { return x + 1; } int never(int x) { return x; } int main() { F *f = g; return f(1); }"
	p, _ := Middle(s, All(50))
	if len(p.Fns) != 1 || ir.Count(p) > 3 {
		t.Errorf("P25.1: %d functions, %d instructions", len(p.Fns), ir.Count(p))
	}
	for _, budget := range []int{-5, 0, 1} {
		f := All(budget)
		f.Strip = false
		if p, _ := Middle(s, f); len(p.Fns) < 3 {
			t.Errorf("P25.1: budget %d", budget)
		}
	}
}

func TestBound(t *testing.T) { // P25.3
	all, none := All(50), api.Flags{}
	deep := "int main() { int d; d = 7; return f(5000, 0) & 255; }"
	for s, c := range map[string]struct{ all, none bool }{
		"int main() { return 0; }": {true, true}, "int f(int n, int s) { if (n == 0) return s; return f(n - 1, s + 1); } " + deep: {true, false}, "int f(int n, int s) { if (n == 0) return s; return 1 + f(n - 1, s); } " + deep: {false, false},
		"typedef int F(int); F *h; int g(int x) { return x; } int k(int x) { return h(x) + 1; } int main() { h = getbyte() ? g : k; return h(1); }": {false, false}, "int g(int x) { long a[4096]; a[0] = x; return a[0]; } int main() { return g(1) + g(2); }": {true, true},
		"struct V { long a[4096]; }; struct W { struct V a; struct V b; }; int f17() { struct W a; struct W b; struct W c; struct W d; struct W e; struct W g; struct W h; struct W i; struct W j; struct W k; struct W l; struct W m; struct W n; struct W o; struct W p; struct W q; return 0; } int main() { return f17(); }": {false, false}, "typedef int F(int); F *h; int g(int x) { return h(x); } int k(int x) { return x ? h(x - 1) : 1; } int main() { h = getbyte() ? g : k; return 1 + h(1); }": {true, false},
	} {
		if w := sema.Check(s); w.Code != api.OK {
			t.Fatalf("%v of %s", w, s)
		}
		for k, f := range []api.Flags{all, none} {
			want := []bool{c.all, c.none}[k]
			got := Bound(s, f)
			if (got > 0) != want || got > 0 && (got%16 != 0 || got < api.MinStack || got > api.MaxStack) || got == 0 {
				t.Errorf("P25.3: %s: %d", s, got)
			}
		}
	}
	s := "int f(int n, int s) { if (n == 0) return s; return f(n - 1, s + 1); } int main() { return f(500000, 0) & 255; }"
	text, _ := Compile(s, api.Flags{Tail: true})
	c, _ := x86.Read(text)
	if got := c.Run(nil, 16*api.MaxFuel, Bound(s, api.Flags{Tail: true})); got.Kind != api.Exited || got.Code != 500000&255 || Bound(s, api.Flags{Tail: true}) != api.MinStack {
		t.Errorf("P25.3: %v", got)
	}
}

func TestTight(t *testing.T) { // P25.3: so many bytes are enough, and no more are told than are asked for
	s := "int h(int x) { long a[500]; a[x] = x; return a[x]; } int g(int x) { long a[700]; a[x] = h(x) + h(x + 1); return a[x]; } int f(int x) { int a[300]; a[x] = g(x); return a[x] + h(3); } int main() { putbyte(65); return f(2) + g(4); }"
	for _, f := range []api.Flags{{}, All(50), {Tail: true}} {
		bound := Bound(s, f)
		text, _ := Compile(s, f)
		c, _ := x86.Read(text)
		enough, less := c.Run(nil, 9999, bound), c.Run(nil, 9999, bound-16)
		if bound <= api.MinStack || enough.Kind != api.Exited || less.Kind != api.Overflow || c.Deepest(nil, 9999)+ahead != bound {
			t.Errorf("P25.3: %v: %d: %v, %v, %d deep", f, bound, enough, less, c.Deepest(nil, 9999))
		}
	}
}
