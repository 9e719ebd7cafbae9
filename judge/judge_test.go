package judge

import (
	"testing"

	"spokeshave/api"
	"spokeshave/drive"
	"spokeshave/sample"
)

// texts are some that are right, some that are wrong, and some that are undefined.
func texts() []string {
	return []string{
		"", "int", "$", "int main() { return x; }", "int main() { return 1 / 0; }", "int main() { while (1) ; }", "int main() { putbyte(65); return 3; }", "int main() { return *(&main == 0 ? 0 : 0); }",
		"int f(int n) { if (n == 0) return 7; return f(n - 1); } int main() { return f(900); }", "int f(int n) { if (n == 0) return 7; putbyte(n); return f(n - 1) + 1; } int main() { return f(300); }",
		"typedef int F(int); int g(int x) { return x + 1; } F *h = g; int main() { return h(1) + (*h)(getbyte()); }", "int main() { unsigned char c = 300; return c; }", "int main() { goto in; while (getbyte() != -1) { in: putbyte(1); } }", "int f(int a) { long b[4000]; b[a] = a; return b[a]; } int main() { return f(1) + f(2); }",
		"int w[4]; int main() { int *p = w + 4; return p == w + 4; }", "int main() { int x; return x; }", "struct S { struct S *n; int v; }; struct S s; int main() { s.n = &s; s.n->n->v = 9; return s.v; }", "int main() { return main == 0; }",
	}
}

func TestJudge(t *testing.T) { // P27.1, P27.2
	if !Agree("", nil) {
		t.Error("P27.1: nothing")
	}
	for _, s := range texts() {
		if !Agree(s, []byte("in"), drive.Sets(30)...) {
			t.Errorf("P27.2: Agree: %s", s)
		}
		for _, f := range drive.Sets(30) {
			if !Total(s, f) || !Lines(s, f) || !Deep(s, []byte("in"), f) {
				t.Errorf("P27.2: %v: %s: %v %v %v", f, s, Total(s, f), Lines(s, f), Deep(s, []byte("in"), f))
			}
		}
	}
}

func TestSamples(t *testing.T) { // P27.2
	for seed := range 8 {
		s := sample.Program(800 + seed)
		if !Agree(s, []byte("abc"), drive.Sets(60)...) {
			t.Errorf("P27.2: Agree: seed %d", seed)
		}
		for _, f := range []api.Flags{{}, drive.All(99)} {
			if !Total(s, f) || !Lines(s, f) || !Deep(s, []byte("abc"), f) {
				t.Errorf("P27.2: seed %d", seed)
			}
		}
	}
}

func TestAgrees(t *testing.T) { // P27.1: what is let, and what is not
	want := api.Outcome{Kind: api.Exited, Code: 3, Out: []byte("ab")}
	for k, c := range []struct {
		got      api.Outcome
		over, is bool
	}{
		{want, true, true}, {want, false, true}, {api.Outcome{Kind: api.OutOfFuel}, false, true}, {api.Outcome{Kind: api.Overflow, Out: []byte("a")}, true, true}, {api.Outcome{Kind: api.Overflow, Out: []byte("a")}, false, false}, {api.Outcome{Kind: api.Overflow, Out: []byte("b")}, true, false},
		{api.Outcome{Kind: api.Exited, Code: 4, Out: []byte("ab")}, true, false}, {api.Outcome{Kind: api.Exited, Code: 3, Out: []byte("a")}, true, false}, {api.Outcome{Kind: api.Faulted}, true, false}, {api.Outcome{Kind: api.Undefined}, false, false},
	} {
		if agrees(c.got, want, c.over) != c.is {
			t.Errorf("P27.1: the %d-th", k)
		}
	}
}
