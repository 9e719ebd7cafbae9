package lower

import (
	"bytes"
	"slices"
	"strings"
	"testing"

	"spokeshave/api"
	"spokeshave/ir"
	"spokeshave/run"
	"spokeshave/sample"
)

// made is the program of a text that is right.
func made(t *testing.T, s string) api.Prog {
	t.Helper()
	p, w := Prog(s)
	if w.Code != api.OK || !ir.Check(p) {
		t.Fatalf("P9.1: %v of %.999s", w, s)
	}
	return p
}

func TestForm(t *testing.T) { // P9.1
	p := made(t, "struct S { char a; long b; }; int x[3] = {1, 0, -1}; struct S s; typedef int F(int, long); int f(int a, long b); F *h[2] = {0, &f}; int g() { return 1; } int f(int a, long b) { int c[2]; int d; struct S e; char k; &k; { long m; &m; &a; } return d; } int main() { }")
	var names []string
	for _, f := range p.Fns {
		names = append(names, f.Name)
	}
	if !slices.Equal(names, []string{"g", "f", "main"}) || p.Main != 2 {
		t.Errorf("P9.1: %v, %d", names, p.Main)
	}
	if f := p.Fns[1]; !slices.Equal(f.Slots, []int{4, 8, 16, 1, 8}) || f.Params != 2 || !f.Value {
		t.Errorf("P9.1: slots %v", f.Slots)
	}
	if len(p.Globals) != 3 || p.Globals[0].Size != 12 || p.Globals[1].Size != 16 || p.Globals[2].Name != "h" || !slices.Contains(p.Globals[2].Pieces, api.Piece{At: 8, Bytes: 8, Func: 2}) || !slices.Contains(p.Globals[0].Pieces, api.Piece{At: 8, Bytes: 4, N: -1}) {
		t.Errorf("P9.1: globals %v", p.Globals)
	}
	if q := made(t, "int main() {}"); len(q.Fns) != 1 || len(q.Fns[0].Slots) != 0 {
		t.Error("P9.1: main alone")
	}
	if q, w := Prog("int main() { return x; }"); w != (api.Wrong{Code: api.ErrName}) || len(q.Fns) != 0 {
		t.Errorf("P9.1: a text that is wrong: %v", w)
	}
}

func TestBlocks(t *testing.T) { // P9.1
	for body, want := range map[string]int{
		"v = f(v / 2) % 3 + w[v] - !v; putbyte(v); return (char)v;": 1, "return g(1) ? v : 1;": 3, "v = g(1) ? v : 1;": 4, "if (f(v) / v) v = 1;": 3, "int i; switch (v + 1) { case 1: v = 2; }": 3, "return f(1);": 1,
	} {
		p := made(t, "int v; int w[3]; int f(int a) { return a; } int g(int a) { return 1; } int main() {"+body+"}")
		if got := len(p.Fns[2].Blocks); got != want {
			t.Errorf("P9.1: %s: %d blocks", body, got)
		}
	}
}

func TestReturns(t *testing.T) { // P9.1
	head := "typedef int F(int); typedef long G(); long l() { return 1; } int f(int a) { return a; } F *h; "
	for text, want := range map[string]int{"int k() { return f(1 / 2); }": api.OpCall, "int k() { return h(1); }": api.OpCallAt, "int k() { return (*h)(1); }": api.OpCallAt, "long k() { return l(); }": api.OpCall, "F *k2() { return h; } F *k() { return k2(); }": api.OpCall, "int k() { return getbyte(); }": api.OpIn} {
		p := made(t, head+text+"int main() {}")
		ins := p.Fns[len(p.Fns)-2].Blocks[0].Ins
		n := len(ins)
		if ins[n-1].Op != api.OpRet || ins[n-2].Op != want || ins[n-2].D != ins[n-1].A {
			t.Errorf("P9.1: %s: %v", text, ins)
		}
	}
}

// same holds a text's run against its program's.
func same(t *testing.T, s string, input string, steps int) bool {
	t.Helper()
	want := run.Program(s, []byte(input), steps)
	p := made(t, s)
	if want.Kind != api.Exited {
		return false
	}
	fuel := min(api.MaxFuel, 40*run.Steps(s, []byte(input), steps)+2000)
	got := ir.Run(p, []byte(input), fuel)
	if got.Kind != want.Kind || got.Code != want.Code || !bytes.Equal(got.Out, want.Out) {
		t.Errorf("P9.2: %v, not %v, of\n%.5999s", got, want, s)
	}
	return true
}

func TestMeaning(t *testing.T) { // P9.2
	head := "typedef int F(int); struct P { char c; int a[3]; struct P *n; }; int v; int w[4]; struct P p; F *h; unsigned char t[3] = {1, 300, 7}; int f(int a) { return a + 1; } F *k = f; int put(int a) { putbyte(a); return a; } int none(int a) { if (a) return 7; } struct P *ptr() { return &p; } "
	for _, body := range []string{
		"return 300;", "unsigned char c = 300; c += 256; return c;", "return t[1] + t[2];", "int x = 1; x += (x = 5); return x;", "int i = 0; w[i] = (i = 2); return w[0] + i;", "int x = 3; return x + (x = 4) * x;", "int x = 3; return f(x) + f(x = 9) + x;",
		"int *q = w; *q = (q = w + 1) == w; return *q + (q - w) * 3;", "int *q = w; q[(q = w + 2) - w] = 5; return w[2];", "F *l = f; return l((l = 0) == 0);", "int a = 1; int b = (a = 2) + (a += 3) * a; return b + a;", "int a = 1; return (a ? a : 2) + (a = 7);", "int a = 5; return (a && (a = 0)) + a;",
		"unsigned u = 0; u -= 1; return (u > 5) + (u >> 31);", "unsigned u = 3; return (u - 4) / 1000000000u;", "return -7 / 2 + (-7 % 3) + (-9 >> 1) + 20;", "unsigned a = 7; return (-a) >> 28;", "return (~0u >> 30) + (~5 + 10);", "char c = 200; return c < 0;", "short s = 40000; return s + 30000;", "long l = 4294967296l; return (int)l + (l >> 31);", "unsigned long u = 0; u -= 1; return u / 3 % 7;",
		"int s = 0; switch (v + 3) { case 1: s += 1; case 3: s += 2; case 4: s += 4; break; default: s += 8; } return s;", "int i = 0; goto in; while (i < 3) { i += 10; in: i += 1; } return i;", "int i; for (i = 0; i < 9; i += 1) { if (i == 2) continue; if (i == 5) break; putbyte(i); } return i;", "none(0); return none(1);",
		"put(1) && put(0) || put(2); return 0;", "v ? exit(1) : exit(2);", "exit(513);", "int c; while ((c = getbyte()) != -1) putbyte(c + 1);", "return (k(put(65)) + (*k)(2) + (&f)(3)) & 255;", "h = v ? 0 : k; return h == f && h != 0;", "p.n = &p; p.n->n->a[1] = 6; p.a[2] = 9; return (*p.n).a[1] + p.a[2];", "return ptr()->n == 0;", "struct P a[2]; a[1].c = 300; a->c = 1; return a[1].c + a[0].c;",
		"w[1] = 6; int *q = 2 + w; q = q - 1; q += 1; q -= 1l; return *q + (q - w) + *(1 + w);", "int *q = w; return 3 + q - w + (q + 2 - 1 - w);", "struct P a[3]; struct P *q = 2 + a; q = q - 1; q->c = 5; return a[1].c + (q - a);", "int a; int *q = &a; int **r = &q; **r = 3; return a;", "return (w + 3 - w) + (&w[2] > w) + (sizeof(struct P));", "char b[3]; b[2] = 5; char *q = b + 3; return q[-1] + (q - b);", "int i = 2; do putbyte(i + 48); while (i -= 1);", "for (;;) { if (v > 3) return v; v += 1; }", "int x = x = 3; return x;", "int i; for (i = 0; i < 3; i += 1) { int y = i ? y + 1 : 5; v = y; } return v;", "return !w + !v + !h + !!k;", "switch (t[0]) { case 257: return 1; case 1: return 2; } return 3;",
	} {
		if !same(t, head+"int main() {"+body+"}", "ab", 10000) {
			t.Errorf("P9.2: not Exited: %s", body)
		}
	}
}

func TestSteps(t *testing.T) { // P9.2: 40 times as many steps are enough, also where nothing is a step
	for _, s := range []string{
		"int main() { int i; for (i = 0; i < 500; i += 1) {" + strings.Repeat("do break; while (1);", 500) + "} return i; }",
		"int main() { int i; for (i = 0; i < 500; i += 1) {" + strings.Repeat("{;}", 1500) + "} return i; }",
		"int f(int a, int b, int c, int d, int e, int g) { &a; &b; &c; &d; &e; &g; return 1; } int main() { int i; for (i = 0; i < 200; i += 1) f(1, 2, 3, 4, 5, 6); }",
	} {
		if !same(t, s, "", api.MaxFuel) {
			t.Error("P9.2: not Exited")
		}
	}
	var b strings.Builder
	b.WriteString("int main() { int i; for (i = 0; i < 500; i += 1) {")
	for k := range 900 {
		b.WriteString("l" + string(rune('a'+k%26)) + string(rune('a'+k/26%26)) + string(rune('a'+k/676)) + ":;")
	}
	b.WriteString("; } return 4; }")
	if !same(t, b.String(), "", api.MaxFuel) {
		t.Error("P9.2: not Exited")
	}
}

func TestSamples(t *testing.T) { // P9.2
	ended := 0
	for seed := range 150 {
		if same(t, sample.Program(seed), "some", 20000) {
			ended++
		}
		same(t, sample.Typed(seed), "some", 20000)
	}
	if ended < 100 {
		t.Errorf("only %d samples came to their end", ended)
	}
}
