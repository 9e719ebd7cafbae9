package emit

import (
	"bytes"
	"strings"
	"testing"

	"spokeshave/alike"
	"spokeshave/api"
	"spokeshave/consts"
	"spokeshave/devirt"
	"spokeshave/flow"
	"spokeshave/fold"
	"spokeshave/inline"
	"spokeshave/ir"
	"spokeshave/sample"
	"spokeshave/strip"
	"spokeshave/tail"
	"spokeshave/walk"
	"spokeshave/x86"
)

// read is the code of a program's lines.
func read(t *testing.T, p api.Prog) *x86.Code {
	t.Helper()
	s := Text(p)
	c, w := x86.Read(s)
	if w.Code != api.OK || c.Print() != s {
		t.Fatalf("P24.1: %v at %.200q", w, s[min(w.At, len(s)):])
	}
	return c
}

// same holds a program's run against its lines' runs, on some stacks.
func same(t *testing.T, what string, p api.Prog, input string, fuel int) bool {
	t.Helper()
	c := read(t, p)
	want := ir.Run(p, []byte(input), fuel)
	if want.Kind != api.Exited {
		return false
	}
	for _, stack := range []int{api.MaxStack, api.MinStack, api.MinStack + 1600} {
		got := c.Run([]byte(input), min(40*fuel+4000, 16*api.MaxFuel), stack)
		exact := got.Kind == want.Kind && got.Code == want.Code && bytes.Equal(got.Out, want.Out)
		over := got.Kind == api.Overflow && bytes.HasPrefix(want.Out, got.Out)
		if !exact && !over {
			t.Fatalf("P24.2: %s: %v, not %v", what, got, want)
		}
		if over && stack == api.MaxStack {
			t.Errorf("P24.2: %s: Overflow on the greatest stack", what)
		}
	}
	return true
}

func TestText(t *testing.T) { // P24.1, P24.2
	if Text(api.Prog{}) != "" {
		t.Error("P24.1: text of no program")
	}
	for body, code := range map[string]int{
		"return 300;": 44, "return f(3) + (*k)(4) + g(1, 2, 3, 4, 5, 6);": 100, "return 123456789012 / 1000000000;": 123, "int s = 0; int i; for (i = 0; i < 20; i += 1) switch (i) { case 3: s += 1; break; case 7: s += 2; break; case 11: s += 4; break; case 12: s += 8; break; case 19: s += 16; break; default: s += 0; } return s;": 31,
		"unsigned long u = 0; u -= 1; return u / 3 % 256 + (u > 5);": 86, "long l = -7; return (l >> 1) + 10 - l % 4;": 9, "w[1] = 5; return w[1] + t[1] + v;": 56, "return deep(100);": 100, "switch (v + 1099511627776) { case 1099511627776: return 1; case 1099511627777: return 2; case 1099511627783: return 3; case 5: return 4; } return 5;": 3,
	} {
		p := alike.Text("typedef int F(int); int v = 7; int w[4]; unsigned char t[3] = {1, 300}; int f(int a) { return a + 1; } F *k = f; int g(int a, int b, int c, int d, int e, int h) { return a + 2 * b + 3 * c + 4 * d + 5 * e + 6 * h; } int deep(int n) { if (n == 0) return 0; return 1 + deep(n - 1); } int main() {" + body + "}")
		if !same(t, body, p, "", 9999) {
			t.Errorf("P24.2: %s", body)
		}
		if got := read(t, p).Run(nil, 99999, api.MaxStack); got.Code != code {
			t.Errorf("P24.2: %s: %v", body, got)
		}
	}
}

func TestMiddle(t *testing.T) { // P24.2: of any program that touches no memory
	ended := 0
	for seed := range 2000 {
		p := sample.Middle(seed)
		if fuel := alike.Fuel(p, "some input", 3000); fuel >= 0 && same(t, "seed", p, "some input", fuel) {
			ended++
		}
	}
	if ended < 300 {
		t.Errorf("only %d came to their end", ended)
	}
}

func TestSamples(t *testing.T) { // P24.2
	for seed := range 120 {
		p, ok := alike.Sample(seed, "in")
		if !ok {
			continue
		}
		switch seed % 4 {
		case 1:
			p = flow.Prog(fold.Prog(p))
		case 2:
			p = tail.Prog(strip.Prog(consts.Prog(devirt.Prog(p))))
		case 3:
			p = tail.Prog(flow.Prog(fold.Prog(inline.Prog(devirt.Prog(p), 200))))
		}
		same(t, "seed", p, "in", alike.Fuel(p, "in", 100000))
	}
}

func TestPressure(t *testing.T) { // P24.2: more is live than the machine has registers
	var ins []api.Ins
	const n = 60
	for r := range n {
		ins = append(ins, api.Ins{Op: api.OpIn, D: r})
	}
	for r := range n {
		ins = append(ins, api.Ins{Op: api.OpBin, Sub: 1 + r%3, D: (r + 7) % n, A: r, B: (r * 5) % n}, api.Ins{Op: api.OpBin, Sub: api.Shl + r%9, D: (r + 3) % n, A: (r * 3) % n, B: r}, api.Ins{Op: api.OpExt, D: (r * 11) % n, A: r, W: api.Width{Bits: 8 << (r % 4), Signed: r%2 == 0}})
	}
	for r := range n {
		ins = append(ins, api.Ins{Op: api.OpCall, D: r, N: 1, Args: []int{r, (r + 1) % n, (r + 40) % n, (r + 50) % n, (r + 9) % n, (r + 30) % n}}, api.Ins{Op: api.OpOut, A: (r * 7) % n})
	}
	f := api.Fn{Regs: n, Value: true, Blocks: []api.Block{{Ins: append(ins, api.Ins{Op: api.OpRet, A: 5})}}}
	sum := api.Fn{Params: 6, Regs: 6, Value: true, Blocks: []api.Block{{Ins: []api.Ins{{Op: api.OpBin, Sub: api.Sub, D: 0, A: 0, B: 1}, {Op: api.OpBin, Sub: api.Xor, D: 0, A: 0, B: 2}, {Op: api.OpBin, Sub: api.Add, D: 0, A: 0, B: 3}, {Op: api.OpBin, Sub: api.Mul, D: 0, A: 4, B: 0}, {Op: api.OpBin, Sub: api.Sub, D: 0, A: 0, B: 5}, {Op: api.OpRet, A: 0}}}}}
	if !same(t, "pressure", api.Prog{Fns: []api.Fn{f, sum}}, strings.Repeat("q8?mZ", 20), 9999) {
		t.Error("P24.2: pressure")
	}
}

func TestSwitch(t *testing.T) { // P24.2: 40 times as much fuel, also of many cases
	var b strings.Builder
	b.WriteString("int main() { int i; int s = 0; for (i = 0; i < 1000; i += 1) switch (i) {")
	for k := range 900 {
		b.WriteString("case " + decimal(int64(k)) + ":")
	}
	b.WriteString("s += 1; } return s & 255; }")
	p := alike.Text(b.String())
	if !same(t, "switch", p, "", alike.Fuel(p, "", 100000)) || ir.Run(p, nil, 100000).Code != 900&255 {
		t.Error("P24.2: switch")
	}
}

func TestFrame(t *testing.T) { // P24.3
	p := alike.Text("int leaf(int a) { return a; } int slots(int a) { char b[100]; b[0] = a; return b[0]; } int down(int n) { if (n == 0) return 1; return down(n - 1) + n; } int main() { return leaf(1) + slots(2) + down(30); }")
	var sizes []int
	for _, f := range p.Fns {
		size := Frame(f)
		if size%16 != 0 || size < 16 {
			t.Errorf("P24.3: %s: %d", f.Name, size)
		}
		sizes = append(sizes, size)
	}
	if sizes[1] < 108 || Frame(api.Fn{}) != 0 {
		t.Errorf("P24.3: %v", sizes)
	}
	c := read(t, p)
	if got, want := c.Deepest(nil, 99999), sizes[3]+max(sizes[1], 31*sizes[2]); got != want {
		t.Errorf("P24.3: %d deep, not %d", got, want)
	}
	far := alike.Text("int down(int n) { if (n == 0) return 1; return down(n - 1) + n; } int main() { putbyte(65); return down(900); }")
	main, down := Frame(far.Fns[1]), Frame(far.Fns[0])
	need := main + 901*down
	for stack := need / 16 * 16; stack > api.MinStack; stack -= 4000 {
		got := read(t, far).Run(nil, 99999, stack)
		if got.Kind == api.Overflow != (stack < need+16) && stack >= need+api.MinStack/2 || got.Kind != api.Overflow && got.Kind != api.Exited || string(got.Out) != "A" {
			t.Errorf("P24.3: on %d bytes: %v", stack, got)
		}
	}
	if got := read(t, far).Run(nil, 99999, need+api.MinStack/2); got.Kind != api.Exited {
		t.Errorf("P24.3: %v where enough is left", got)
	}
}

func TestTail(t *testing.T) { // P24.3: a tail call takes no stack
	p := tail.Prog(alike.Text("int odd(int n, int a, int b); int even(int n, int a, int b) { if (n == 0) return a; return odd(n - 1, b, a); } int odd(int n, int a, int b) { if (n == 0) return b; return even(n - 1, b, a); } int main() { return even(30001, 3, 5); }"))
	got := read(t, p).Run(nil, 16*api.MaxFuel, api.MinStack)
	if got.Kind != api.Exited || got.Code != 3 && got.Code != 5 || got.Code != ir.Run(p, nil, api.MaxFuel).Code {
		t.Errorf("P24.3: %v, %v", got, ir.Run(p, nil, api.MaxFuel))
	}
	at := tail.Prog(alike.Text("typedef int F(int, int); F *h[2]; int one(int n, int s) { if (n == 0) return s; return h[n & 1](n - 1, s + 1); } int two(int n, int s) { if (n == 0) return s + 100; return h[n & 1](n - 1, s - 1); } int main() { h[0] = one; h[1] = two; return h[0](20001, 7); }"))
	if got := read(t, at).Run(nil, 16*api.MaxFuel, api.MinStack); got.Kind != api.Exited || got.Code != ir.Run(at, nil, api.MaxFuel).Code || !strings.Contains(Text(at), "jmp\t*%rcx") {
		t.Errorf("P24.3: %v, %v", got, ir.Run(at, nil, api.MaxFuel))
	}
	huge := api.Prog{Fns: []api.Fn{{Regs: 1, Value: true, Blocks: []api.Block{{Ins: []api.Ins{walk.Const(0, 1), {Op: api.OpRet, A: 0}}}}}}}
	for range 40 {
		huge.Fns[0].Slots = append(huge.Fns[0].Slots, api.MaxBytes)
	}
	if got := read(t, huge).Run(nil, 99, api.MaxStack); got.Kind != api.Overflow {
		t.Errorf("P24.2: a frame that has no place: %v", got)
	}
}
