package syn

import (
	"slices"
	"strings"
	"testing"

	"spokeshave/api"
)

func TestDump(t *testing.T) { // P3.1, P3.2
	for in, want := range map[string]string{
		"":       "",
		"int a;": "(var i32 a 0 -)\n",
		"unsigned *a[3] = {0, 1u};unsigned char b=1?2:3;":         "(var u32* a 3 (list (num i32 0) (num u32 1)))\n(var u8 b 0 (cond (num i32 1) (num i32 2) (num i32 3)))\n",
		"struct P { int x; struct P *n[2]; };struct P p;":         "(struct P (i32 x 0) (S.P* n 2))\n(var S.P p 0 -)\n",
		"typedef void T(int, T2);":                                "!",
		"typedef void T(int, char*); T *f(T *g, long h);":         "(typedef void T (i32 i8*))\n(proto T.T* f ((T.T* g) (i64 h)))\n",
		"typedef int T();int f(){T *p; p = T; sizeof(T*); (T)1;}": "(typedef i32 T ())\n(func i32 f () (block (let T.T* p 0 -) (expr (set = (name p) (name T))) (expr (size T.T* 0)) (expr (cast T.T (num i32 1)))))\n",
		"int f(){}": "(func i32 f () (block))\n",
		"void f(int a){;if(a)if(1);else;while(0){}do;while(0);for(;;);for(a=1;a;a+=1)break;}":                  "(func void f ((i32 a)) (block (skip) (if (name a) (if (num i32 1) (skip) (skip)) -) (while (num i32 0) (block)) (do (skip) (num i32 0)) (for - - - (skip)) (for (set = (name a) (num i32 1)) (name a) (set += (name a) (num i32 1)) (break))))\n",
		"int f(){switch(1){case 'a':case -0:case -5:default:x:goto x;{continue;}}return;return 1;int a[3]=2;}": "(func i32 f () (block (switch (num i32 1) (case 97) (case 0) (case -5) (default) (label x (goto x)) (block (continue))) (return -) (return (num i32 1)) (let i32 a 3 (num i32 2))))\n",
		"int a = 1+2*3-4<<5<6==7&8^9|10&&11||12;":                                                              "(var i32 a 0 (or (and (bin | (bin ^ (bin & (bin == (bin < (bin << (bin - (bin + (num i32 1) (bin * (num i32 2) (num i32 3))) (num i32 4)) (num i32 5)) (num i32 6)) (num i32 7)) (num i32 8)) (num i32 9)) (num i32 10)) (num i32 11)) (num i32 12)))\n",
		"int a = -~!&*b[1].c->d(2,3)();":                                                                       "(var i32 a 0 (un - (un ~ (un ! (un & (un * (call (call (arrow (dot (index (name b) (num i32 1)) c) d) (num i32 2) (num i32 3)))))))))\n",
		"int a = ((1)) + (int)-2;":                                                                             "(var i32 a 0 (bin + (num i32 1) (cast i32 (un - (num i32 2)))))\n",
		"int f(){a=b+=c?d:e=f;}":                                                                               "(func i32 f () (block (expr (set = (name a) (set += (name b) (set = (cond (name c) (name d) (name e)) (name f)))))))\n",
		"int a = sizeof(struct Q[4]) % sizeof(unsigned short*);":                                               "(var i32 a 0 (bin % (size S.Q 4) (size u16* 0)))\n",
		"int a[18446744073709551615];":                                                                         "(var i32 a 18446744073709551615 -)\n",
		"int a[0];":                                                                                            "(var i32 a 0 -)\n",
	} {
		got, w := Dump(in)
		if want == "!" {
			if w.Code != api.ErrSyntax {
				t.Errorf("P3.1: %q: %v", in, w)
			}
			continue
		}
		if got != want || w.Code != api.OK {
			t.Errorf("P3.2: %q:\n%q\n%q %v", in, got, want, w)
		}
	}
}

func TestNumbers(t *testing.T) { // P3.2
	for in, want := range map[string]string{
		"0": "i32", "2147483647": "i32", "2147483648": "i64", "0x80000000": "u32", "0xffffffff": "u32", "0x100000000": "i64", "0x8000000000000000": "u64",
		"9223372036854775807": "i64", "1u": "u32", "4294967296u": "u64", "0x1l": "i64", "0xffffffffffffffffl": "u64", "1ul": "u64", "'a'": "i32", "'\\0'": "i32",
	} {
		got, w := Dump("int a = " + in + ";")
		if w.Code != api.OK || !strings.HasPrefix(got, "(var i32 a 0 (num "+want+" ") {
			t.Errorf("P3.2: %s: %s %v", in, got, w)
		}
	}
	for in, at := range map[string]int{"int a = 9223372036854775808;": 8, "int a = 18446744073709551615l;": 8, "int f(){switch(1){case -9223372036854775808:}}": 24} {
		if _, w := Dump(in); w != (api.Wrong{Code: api.ErrLong, At: at}) {
			t.Errorf("P3.2: %s: %v", in, w)
		}
	}
}

func TestSyntax(t *testing.T) { // P3.1
	for in, at := range map[string]int{
		"int": 3, "int a": 5, "int a = b = 1;": 10, "a b;": 0, "int f(void);": 10, "struct S {};": 10, "struct S;": 8, "int long a;": 4,
		"int a[1u];": 6, "int a['a'];": 6, "int f() x": 8, "int f() {": 9, "int f(){x:}": 10, "int f(){case 1:;}": 8, "int f(){switch(1){case x:}}": 23,
		"int f(){sizeof(1);}": 15, "int f(){if 1;}": 11, "int f(){else;}": 8, "int f(){for(;;;);}": 14, "int f(){1+;}": 10, "typedef int T();int f(){T:;}": 25,
		"typedef int T();int f(){T+1;}": 25, "typedef int T();int f(){(T);}": 27, "int f(){int a,b;}": 13, "int f(){return return;}": 15, "int a = {};": 9, "int a = {1,};": 11,
		"int f(){9223372036854775808 $": 28, "int f(){do;while(1)}": 19, "int f(int a,);": 12, "int f(){(int a);}": 13, "}": 0, "int f(){a.1;}": 10, "int f(){goto 1;}": 13,
		"struct S { int a; int; };": 21, "typedef int;": 11, "int f(){switch(1)1;}": 17,
	} {
		want := api.Wrong{Code: api.ErrSyntax, At: at}
		if strings.Contains(in, "$") {
			want.Code = api.ErrChar
		}
		got, w := Dump(in)
		if w != want || got != "" {
			t.Errorf("P3.1: %q: %v, not %d", in, w, at)
		}
		list, v := Items(in)
		if v != w || list != nil {
			t.Errorf("P3.1: Items(%q): %v %v", in, list, v)
		}
	}
}

func TestDeep(t *testing.T) { // P3.1
	deep := func(n int) string { return "int a = " + strings.Repeat("-", n) + "1;" }
	if _, w := Dump(deep(api.MaxDepth - 2)); w.Code != api.OK {
		t.Errorf("P3.1: at the depth: %v", w)
	}
	if _, w := Dump(deep(api.MaxDepth - 1)); w != (api.Wrong{Code: api.ErrDeep}) {
		t.Errorf("P3.1: one past the depth: %v", w)
	}
	if _, w := Dump(deep(api.MaxDepth-1) + "]"); w.Code != api.ErrSyntax {
		t.Errorf("P3.1: a syntax error first: %v", w)
	}
	if got, w := Dump("int a = " + strings.Repeat("(", 2900) + "1" + strings.Repeat(")", 2900) + ";"); w.Code != api.OK || got != "(var i32 a 0 (num i32 1))\n" {
		t.Errorf("P3.1: parentheses are not told: %v", w)
	}
	if _, w := Dump(strings.Repeat("(", 5000)); w.Code != api.ErrSyntax {
		t.Errorf("P3.1: %v", w)
	}
}

func TestItems(t *testing.T) { // P3.1
	got, w := Items(" int a; /* */ struct S { int b; };\ntypedef int T(); int f(){}")
	if w.Code != api.OK || !slices.Equal(got, []int{1, 14, 35, 52}) {
		t.Errorf("P3.1: %v %v", got, w)
	}
}
