package run

import (
	"strings"
	"testing"

	"spokeshave/api"
)

const head = `
typedef int F(int);
struct P { char c; int a[3]; int b; struct P *n; };
int v; int w[4]; struct P p; F *h; int *z; unsigned char t[3] = {1, 300};
int f(int a) { return a + 1; }
int none(int a) { if (a) return 7; }
int *keep(int a) { int b = a; return &b; }
int deep(int n) { if (n == 0) return 0; return 1 + deep(n - 1); }
struct L { long a[4096]; long b[3404]; }; struct W { long a[4096]; long b[4096]; }; struct V { long a[4096]; long b[4094]; };
int big(int n) { struct L c; if (n == 0) return 1; return big(n - 1) + 1; }
F *k = f;
int put(int a) { putbyte(a); return a; }
`

func ran(body string, input string) api.Outcome {
	return Program(head+"int main() {"+body+"}", []byte(input), api.MaxFuel)
}

func TestValues(t *testing.T) { // P7.1, P7.2, P7.3
	for body, want := range map[string]int{
		"return 300;": 44, "": 0, "return -1;": 255, "unsigned char c = 300; return c;": 44, "return t[1] + t[2];": 44, "return v + w[3] + p.b + (p.n == 0) + !h + !z;": 3,
		"int x = 1; x += (x = 5); return x;": 6, "int i = 0; w[i] = (i = 2); return w[0] + i;": 4, "int x = 3; return x + (x = 4) * x;": 19, "return (*k)(1) + k(2) + (&f)(3) + (*f)(4);": 14,
		"int *q = w + 3; *q = 5; return w[3] + (q - w) + (w < q) + (q >= &w[1]);": 10, "int *q = w; q += 2; q -= 1; *q = 4; return w[1] + (q != w);": 5,
		"p.n = &p; p.n->n->b = 6; p.a[3] = 9; return (*p.n).b;": 9, "struct P a[2]; a[1].c = 300; a->c = 1; return a[1].c + a[0].c;": 45,
		"return (2147483647u + 1 > 0) + (-1 < 0u) + (-1l < 0u);": 2, "return 7 / -2 + 7 % -2 + (-8 >> 1) + 10;": 4, "return ~0 + !5 + -3 + 10;": 6, "return 1 ? 2 : put(1);": 2, "return 0 && put(1) || 1 || put(2);": 1, "return sizeof(struct P) + sizeof(int[3]);": 44,
		"int s = 0; int i; for (i = 0; i < 5; i += 1) { if (i == 2) continue; if (i == 4) break; s += i; } return s;": 4, "int i = 0; do i += 1; while (i < 3); while (i < 9) i += 2; return i;": 9,
		"int s = 0; switch (3) { case 1: s += 1; case 3: s += 2; case 4: s += 4; break; default: s += 8; } return s;": 6, "switch (9) { case 1: return 1; default: return 2; }": 2, "switch (9) { case 1: return 1; } return 3;": 3, "char c = -1; switch (c) { case 255: return 1; case 4294967295: return 2; } return 3;": 2,
		"int i = 0; goto in; while (i < 3) { i += 10; in: i += 1; } return i;": 12, "int i = 0; l: i += 1; if (i < 4) goto l; return i;": 4, "int i; for (i = 0; i < 2; i += 1) { int x = i ? x + 1 : 5; v = x; } return v;": 6,
		"none(0); return none(1);": 7, "return getbyte() + getbyte() + getbyte() + 3;": 132, "exit(513); return 7;": 1, "if (f) if (w) return h == 0; return 9;": 1, "return deep(900) == 900;": 1, "return big(2);": 3, "return (h == f) + (k == f) + (k == &f);": 2,
		"long l = 1; l <<= 40; return (l >> 38) + (int)l;": 4, "unsigned u = 0; u -= 1; return u == 4294967295l;": 1, "z = v ? 0 : w; return z == w;": 1, "int *q = 0; return &*q == 0;": 1, "char *c = &p.c; return c == 0;": 0, "int i = 3; { int i = 4; v = i; } return i + v;": 7,
		"return (w + 4 == w + 4) + (w + 4 - w);": 5, "int a; int *q = &a; *q = 3; return a;": 3, "unsigned long u = 18446744073709551615ul; return u > 5;": 1, "short s = 40000; return s < 0;": 1, "for (;;) return 4;": 4, "return f(f(f(1l)));": 4,
	} {
		got := ran(body, "AA")
		if got.Kind != api.Exited || got.Code != want {
			t.Errorf("P7.1: %s: %v", body, got)
		}
	}
}

func TestUndefined(t *testing.T) { // P7.1, P7.2
	for _, body := range []string{
		"int a; return a;", "return 1 / v;", "return 2147483647 + f(0);", "return 1 << 31;", "return 1 << 32;", "int m = -2147483647 - 1; return m % -1;", "return -(-2147483647 - 1);", "return w[4];", "return *(w + 4);", "z = w - 1; return 1;", "z = w + 5; return 1;",
		"return *z;", "return p.n->b;", "h(1); return 1;", "return none(0);", "v = none(0); return 1;", "return *keep(1);", "return keep(1) == w;", "return keep(1) - w;", "return w < &v;", "return w + 4 == &v;", "return w + 4 == 0;", "int a[3]; a[0] = 1; return a[1];",
		"int i; for (i = 0; i < 2; i += 1) { int x; if (i) return x; x = 1; } return 1;", "struct P *q = &p; q += 1; return q->b;", "return p.a[5];", "return *(&v + 1);", "long l = -9223372036854775807 - 1; return l / -1;", "z = w + 18446744073709551615ul; return 1;", "z = &w[1] + 18446744073709551615ul; return 1;",
		"int a; a += 1; return 1;", "v ? none(0) : none(0); return 1;", "return &p.a[0] - &p.a[0] + (z - z);",
	} {
		if got := ran(body, ""); got.Kind != api.Undefined || got.Code != 0 {
			t.Errorf("P7.1: %s: %v", body, got)
		}
	}
	if got := ran("putbyte(65); h(put(66)); return 1;", ""); got.Kind != api.Undefined || string(got.Out) != "AB" {
		t.Errorf("P7.1: what is handed comes ahead of the call: %v", got)
	}
}

func TestOut(t *testing.T) { // P7.1, P7.3
	for body, want := range map[string]string{
		"putbyte(65); putbyte(322); return 3;": "AB", "put(65) + put(66) * put(67);": "ABC", "w[put(1)] = put(66);": "\x01B", "k(put(65)); (put(1) ? f : k)(put(2));": "A\x01\x02", "w[put(1)] += put(2);": "\x01\x02", "int c; while ((c = getbyte()) != -1) putbyte(c);": "xyz", "put(0) && put(1) || put(2);": "\x00\x02",
		"int i = 2; do putbyte(i + 48); while (i -= 1);": "21",
	} {
		got := ran(body, "xyz")
		if got.Kind != api.Exited || string(got.Out) != want {
			t.Errorf("P7.3: %s: %v", body, got)
		}
	}
}

func TestSteps(t *testing.T) { // P7.1
	for body, want := range map[string]int{
		"": 0, ";": 0, "1;": 1, "int a;": 1, "int a = 1;": 2, "return 1 + 2;": 4, "w[1] = 2;": 5, "v += 1;": 3, "&v;": 2, "p.b;": 2, "p.b = 1;": 4, "f(1);": 7, "1 && 2;": 3, "0 && 2;": 2, "1 ? 2 : 3;": 3, "for (;;) break;": 1, "for (1; 0; 2) ;": 2, "goto x; x: ;": 1,
		"switch (1) { case 2: 3; }": 1, "sizeof(int);": 1, "(long)1;": 2, "while (0) ;": 1, "do ; while (0);": 1, "putbyte(65);": 3, "getbyte();": 2, "&*&v;": 4, "(&p)->b;": 3, "exit(1);": 3,
	} {
		s := head + "int main() {" + body + "}"
		if got := Steps(s, nil, api.MaxFuel); got != want {
			t.Errorf("P7.1: %s: %d steps", body, got)
		}
		if got := Program(s, nil, want); got.Kind != api.Exited {
			t.Errorf("P7.1: %s with enough fuel: %v", body, got)
		}
		if want > 0 && (Program(s, nil, want-1).Kind != api.OutOfFuel || Steps(s, nil, want-1) != want-1) {
			t.Errorf("P7.1: %s with one step less", body)
		}
	}
}

func TestBounds(t *testing.T) { // P7.1, P7.3
	for body, want := range map[string]int{
		"deep(998);": api.Exited, "deep(999);": api.OutOfFuel, "big(3);": api.Exited, "big(4);": api.OutOfFuel, "l: goto l;": api.OutOfFuel, "for (;;) ;": api.OutOfFuel, "while (1) ;": api.OutOfFuel,
		"struct W a; struct W b; struct W c; struct V d; char e;": api.Exited, "struct W a; struct W b; struct W c; struct V d; char e; char g;": api.OutOfFuel,
	} {
		if got := ran(body, ""); got.Kind != want {
			t.Errorf("P7.1: %s: %v", body, got)
		}
	}
	if got := Program("typedef int F(); F *h; int d(int n) { if (n == 0) return h(); return d(n - 1); } int main() { return d(998); }", nil, api.MaxFuel); got.Kind != api.Undefined {
		t.Errorf("P7.1: that what is called is no function comes first: %v", got)
	}
	ok := "int main() { return 0; }"
	for i, got := range []api.Outcome{Program(ok, nil, -1), Program(ok, nil, api.MaxFuel+1), Program(ok, make([]byte, api.MaxInput+1), 9), Program("int main() { return x; }", nil, 9), Program("", nil, 9)} {
		if got.Kind != api.Invalid || got.Code != 0 || got.Out != nil {
			t.Errorf("P7.3: Invalid, the %d-th: %v", i, got)
		}
	}
	if Steps("", nil, 9) != 0 || Program(ok, make([]byte, api.MaxInput), api.MaxFuel).Kind != api.Exited || Program(ok, nil, 0).Kind != api.OutOfFuel {
		t.Error("P7.3: at the limits")
	}
	if got := Program("int main() { putbyte(65); while (1) ; }", nil, 100); got.Kind != api.OutOfFuel || string(got.Out) != "A" {
		t.Errorf("P7.3: what was put out till then: %v", got)
	}
	if got := Program(strings.Repeat("int a; ", 3)+ok, nil, 9); got.Kind != api.Invalid {
		t.Errorf("P7.3: %v", got)
	}
}

func BenchmarkRun(b *testing.B) {
	for range b.N {
		ran("int i; for (;;) { int a[9]; for (i = 0; i < 9; i += 1) { a[i] = f(i); v = a[i] & 255; } }", "")
	}
}

func TestInits(t *testing.T) { // P7.2: globals begin with their init
	for init, want := range map[string]int{
		"~5": 250, "!3": 0, "!0": 1, "-7": 249, "(char)300": 44, "(unsigned char)-1": 255, "1 && 0": 0, "2 && 3": 1, "0 || 7": 1, "0 || 0": 0, "1 ? 2 : 3": 2, "0 ? 1 / 0 : 4": 4, "0 && 1 / 0": 0, "5 - 8 < 0u": 0, "-1 < 0l": 1, "7 >= 7": 1, "9 > 10": 0, "1 << 5 | 3": 35, "-9 >> 1": 251, "sizeof(long[3])": 24, "-7 / 2": 253, "-7 % 4": 253, "'a' == 97": 1, "3 != 3u": 0, "4 <= 3": 0, "6 ^ 3 & 2": 4, "1 ? 5 : 6l": 5, "4294967295 + 1 > 0": 1,
	} {
		for _, typ := range []string{"int", "long", "unsigned char"} {
			got := Program(typ+" g = "+init+"; "+typ+" a[2] = {0, "+init+"}; int main() { return g == a[1] ? g : 99; }", nil, 99)
			if got.Kind != api.Exited || got.Code != want {
				t.Errorf("P7.2: %s g = %s: %v", typ, init, got)
			}
		}
	}
}
