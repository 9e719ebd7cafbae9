package sema

import (
	"strings"
	"testing"

	"spokeshave/api"
)

const head = "typedef int F(int); struct P { int x; struct P *n; char b[3]; }; int f(int a) { return a; } void g() {} int v; int w[4]; struct P p; F *h; "

// in is a text in which a function's body stands.
func in(body string) string { return head + "int main() {" + body + "}" }

func TestBodies(t *testing.T) { // P5.1
	for code, bodies := range map[api.Errno][]string{
		api.OK: {
			"int a = a; { int a; } return 0;", "return f(1) + (*h)(2) + h(3) + (&f)(4) + (*f)(5);", "p.n = &p; return p.n->n->x;", "w[1] = *w + w[2]; int *q = w + 1; q = 1 + w; q -= 1; return q - w;",
			"if (w) ; while (h) ; do ; while (!h); for (g(); v; g()) ;", "1 ? g() : g();", "int *q = v ? w : 0; q = v ? 0 : w; return q == 0 || 0 != q || q < w;", "unsigned char c = 300; c <<= 2; c += 1ul; return c;",
			"switch (v) { case 1: case -1: default: int z; z = 1; { break; } }", "x: goto y; y: ; goto x;", "int f; f = 1; return f;", "h = f; h = &f; h = 0; return h == f;", "F *k = v ? f : h; return (v ? f : k)(1);",
			"switch (1) {}", "sizeof(struct P[3]); sizeof(F*);", "int *q = &w[1]; int **r = &q; **r = 1; *(&v) = 2; &(v);", "(long)v; (char)'a' + 1; -v; ~v; !w;", "char *c = p.b; c[0] = *p.b; struct P a[2]; a->x = a[1].x; return sizeof(int) / 2;",
			"while (1) { switch (v) { default: continue; } }", "putbyte(getbyte()); exit((int)1l);", "w; f; p.b;", "long l = 'a'; return l;", "{ struct P f; f.x = 1; } return main();",
		},
		api.ErrName: {
			"return x;", "int a; int a;", "goto q;", "x: ; x: ;", "p.y;", "p.n->y;", "(1 + x)();", "int F;", "{ int F; }", "struct Q *q;", "struct Q q;", "sizeof(struct Q);", "{ int a; } a;", "v(x);", "if (v) int k; else int k;",
			"p->x; q;", "break; q;", "int z[0]; z.y(q);", "int b[0]; struct P c[0]; c[0].y;",
		},
		api.ErrFlow: {
			"break;", "continue;", "switch (v) { case 1: case 1: }", "switch (v) { case 4294967295: case -1: }", "switch (v) { default: default: }", "switch (v) { v; }", "switch (v) { ; case 1: }", "switch (v) { case 1: continue; }",
			"int z[0]; break;", "p + 1; break;", "char c; switch (c) { case 'a': case 97: }",
		},
		api.ErrConst: {"int z[0];", "int z[4097];", "struct P z[4000];", "sizeof(int[0]);", "int z[0]; p + 1;", "sizeof(int[4097]);"},
		api.ErrType: {
			"p + 1;", "p;", "void a;", "F a;", "void *a;", "int a[2] = 1;", "struct P a = p;", "return;", "return p.n;", "int *q = v;", "int *q = 0u;", "int a = w;", "h + 1;", "h < h;", "w == p.n;", "w - p.n;", "w + w;", "w * 2;", "~w;", "-w;",
			"*v;", "&1;", "&f(1);", "&*h;", "&(v + 1);", "1 = 2;", "w = 0;", "f = 0;", "v += w;", "w[1] += w;", "v[1];", "1[w];", "v.x;", "v->x;", "p->n;", "f();", "f(1, 2);", "f(w);", "v();", "(char*)v;", "(int)w;", "v = F;", "getbyte;", "&exit;", "(*getbyte)();",
			"g() + 1;", "!g();", "v = g();", "if (g()) ;", "if (p) ;", "switch (w) {}", "v ? 1 : w;", "v ? g() : 1;", "p ? 1 : 2;", "v = p;", "p = p;", "sizeof(void);", "sizeof(F);", "1 && g();", "int *q; q = 1;", "p.n += p.n;", "w[w];", "(v + w == 1).y;", "p.n->n.x.y;",
		},
	} {
		for _, b := range bodies {
			w := Check(in(b))
			at := strings.Index(in(b), "int main")
			if code == api.OK {
				at = 0
			}
			if w != (api.Wrong{Code: code, At: at}) {
				t.Errorf("P5.1: %s: %v, not %d", b, w, code)
			}
		}
	}
}

func TestItems(t *testing.T) { // P5.1
	main := " int main() { return 0; }"
	for code, items := range map[api.Errno][]string{
		api.OK: {
			"", "int f(); int f(); int f() { return 1; } int f();", "int getbyte(); void exit(int code);", "int a = 1 + 2 * sizeof(long);", "int a = 1 || 1 / 0;", "int a = 0 ? 1 / 0 : -3;", "char a[3] = {1, 300};", "int *a = 0; int *b = '\\0';",
			"typedef int F(); int k(); F *a = k; F *b[3] = {&k, k, 0}; int k() { return 1; }", "struct S { struct S *s; }; struct S s[9]; struct S *t = 0;",
			"int a[4096]; char b[4096];", "struct S { char a[4096]; }; struct S b[16];", "int f(int a, int b, int c, int d, int e, int g) { return a; }", "int main();", "long a = 0x8000000000000000;",
		},
		api.ErrName: {
			"int a; int a;", "int a; int a() { return 1; }", "int f() { return 1; } int f() { return 1; }", "int getbyte() { return 1; }", "int exit;", "typedef int F(); int F;", "typedef int F(); typedef int F();", "struct S { int a; }; struct S { int a; };",
			"struct S { int a; int a; };", "int f(int a, int a);", "int f(int a, int a) { return 1; }", "int f(int a) { int a; return 1; }", "struct S { struct S a; };", "struct S { struct T *a; };", "struct S *a;", "int a = b;", "typedef int F(); int f(int F);", "typedef struct S F();", "int f(struct S *a);",
			"void *f(int a) { b; }", "typedef int F(int, struct S*);", "struct S { int x; }; int f(struct S *a, void b) { a->y; }", "struct S { int x; }; int f(struct S *a, int b, int c, int d, int e, int g, int h) { a->y; }",
		},
		api.ErrConst: {
			"int a = 1 / 0;", "int a; int b = a;", "int f() { return 1; } int a = f();", "int a[2] = {1, 2, 3};", "int a; int *b = &a;", "int a[0];", "int a[4097];", "struct S { int a[0]; };", "struct S { char a[4096]; }; struct S b[17];", "typedef int F(); int k() { return 1; } F *a = *k;",
			"int a = 2147483647 + 1;", "int a; int b = 1 || a;", "int a = !&a;", "struct A { long a[4096]; }; struct B { struct A a[3]; };", "void a[0];", "int a[0] = 3;", "int a = 1 << 31;", "int a = -2147483647 - 2;",
		},
		api.ErrType: {
			"void a;", "void *a;", "typedef int F(); F a;", "int f(void a) { return 1; }", "typedef int F(); int f(F a);", "typedef int F(); F f();", "struct S { int a; }; struct S f();", "struct S { int a; }; int f(struct S a);", "struct S { void a; };", "int f(); long f();", "int f(int a); int f() { return 1; }",
			"void f() { return 1; }", "void f() {} void g() { return f(); }", "long f() { return; }", "int exit();", "int f(int a, int b, int c, int d, int e, int g, int h);", "typedef int F(int, int, int, int, int, int, int);", "int a = {1};", "int a[2] = 1;", "struct S { int a; }; struct S b = 0;", "struct S { int a; }; struct S b[1] = {0};", "int *a = 1;", "int a; int b = &a;", "int a; long *b = &a;",
			"typedef int F(); long k() { return 1; } F *a = k;", "typedef void F(void);", "typedef void *F();", "int a[1] = {1 / 0, &a};", "typedef int F(); struct S { F a; };", "typedef int F(); F *a = getbyte;",
		},
	} {
		for _, it := range items {
			w := Check("int zz; " + it + main)
			if w.Code != code {
				t.Errorf("P5.1: %s: %v, not %d", it, w, code)
			}
		}
	}
	for s, want := range map[string]api.Wrong{
		"": {Code: api.ErrMain}, "int main() { return x; }": {Code: api.ErrName}, "int main();": {Code: api.ErrName, At: 11}, "void main() {}": {Code: api.ErrMain, At: 14}, "int main(int a) { return a; } ": {Code: api.ErrMain, At: 30},
		"int main;": {Code: api.ErrMain, At: 9}, "int f(); int main() { return f(); }": {Code: api.ErrName, At: 35}, "int f(); ": {Code: api.ErrName, At: 9}, "int main() {": {Code: api.ErrSyntax, At: 12}, "int a = x; int a;": {Code: api.ErrName}, "int b; int a = &b; int c = x;": {Code: api.ErrType, At: 7},
	} {
		if w := Check(s); w != want {
			t.Errorf("P5.1: %s: %v, not %v", s, w, want)
		}
	}
}

func TestTypes(t *testing.T) { // P5.2
	for body, want := range map[string]string{
		"w[1] + 'a';": "i32 i32 [4]i32 i32 i32", "&w;": "[4]i32* [4]i32", "p.n->b;": "[3]i8 S.P* S.P", "f(1);": "i32 fn(i32)i32 i32", "(*h)(2);": "i32 fn(i32)i32 fn(i32)i32* i32", "g();": "void fn()void", "putbyte(getbyte());": "void fn(i32)void i32 fn()i32",
		"sizeof(int);": "u64", "(char)v << 1l;": "i32 i8 i32 i64", "1u + 1l;": "i64 u32 i64", "v == 1ul;": "i32 i32 u64", "w - w;": "i64 [4]i32 [4]i32", "!w;": "i32 [4]i32", "v ? 0 : w;": "i32* i32 i32 [4]i32", "do v; while (w);": "i32 [4]i32",
		"for (v; w; 1l) 2u;": "i32 [4]i32 i64 u32", "char c = v; c += 1;": "i32 i8 i8 i32", "switch (v) { case 1: w; }": "i32 [4]i32", "&f;": "fn(i32)i32* fn(i32)i32", "v && w;": "i32 i32 [4]i32",
	} {
		got, w := Types("int a = 1 + 2l; " + in(body))
		if w.Code != api.OK || strings.Join(got, " ") != "i64 i32 i64 i32 "+want {
			t.Errorf("P5.2: %s: %s %v", body, strings.Join(got, " "), w)
		}
	}
	got, w := Types("typedef char *F(long, unsigned*); int main() { F *x; *x; return 1; } F *k[2] = {0, 0};")
	if w.Code != api.OK || strings.Join(got, " ") != "fn(i64,u32*)i8* fn(i64,u32*)i8** i32 i32 i32" {
		t.Errorf("P5.2: %v %v", got, w)
	}
	if got, w := Types("int a;"); got != nil || w.Code != api.ErrMain {
		t.Errorf("P5.2: %v %v", got, w)
	}
}
