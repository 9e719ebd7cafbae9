package layout

import (
	"reflect"
	"strings"
	"testing"

	"spokeshave/api"
)

func TestStructs(t *testing.T) { // P4.1
	got, w := Structs("typedef int F(); struct A { char a; long b; }; int x; struct B { char c[3]; struct A d[2]; F *f; struct Zed *z; unsigned short e; };")
	want := []Struct{
		{"A", 16, 8, []Field{{"a", "i8", 0, 0, 1}, {"b", "i64", 0, 8, 8}}},
		{"B", 64, 8, []Field{{"c", "i8", 3, 0, 3}, {"d", "S.A", 2, 8, 32}, {"f", "T.F*", 0, 40, 8}, {"z", "S.Zed*", 0, 48, 8}, {"e", "u16", 0, 56, 2}}},
	}
	if w.Code != api.OK || !reflect.DeepEqual(got, want) {
		t.Errorf("P4.1: %v %v", got, w)
	}
	for in, names := range map[string]string{
		"": "", "struct A { void a; };": "", "struct A { void *a; };": "", "struct A { struct A a; };": "", "struct A { struct A *a; };": "A",
		"struct A { struct B b; }; struct B { int a; };": "B", "struct A { int a; }; struct A { long b; };": "A", "struct A { void a; }; struct A { int b; };": "A",
		"struct A { int a[0]; };": "", "struct A { int a[4096]; };": "A", "struct A { int a[4097]; };": "", "typedef int F(); struct A { F f; };": "",
		"struct A { int a; int a; };": "A", "struct A { char a[18446744073709551615]; };": "",
		"struct A{long a[4096];};struct B{struct A a[4096];};struct C{struct B b[15];struct A c[4095];char d;};struct D{struct B b[16];};struct E{struct B b[15];struct A c[4095];long d[4095];char e[8];};": "A B C",
	} {
		list, w := Structs(in)
		var told []string
		for _, s := range list {
			told = append(told, s.Name)
		}
		if w.Code != api.OK || strings.Join(told, " ") != names {
			t.Errorf("P4.1: %s: %v %v", in, told, w)
		}
	}
	if list, w := Structs("int a"); list != nil || w != (api.Wrong{Code: api.ErrSyntax, At: 5}) {
		t.Errorf("P4.1: %v %v", list, w)
	}
}

func TestSize(t *testing.T) { // P4.1
	text := "typedef int F(); struct A { char a; short b; };"
	for _, c := range []struct {
		typ       string
		num, want int
	}{
		{"i8", 0, 1}, {"u16", 3, 6}, {"i32", 0, 4}, {"u64", 2, 16}, {"void", 0, 0}, {"void*", 0, 0}, {"i32**", 0, 8}, {"S.A", 0, 4}, {"S.A", 5, 20}, {"S.B", 0, 0}, {"S.B*", 0, 8},
		{"T.F", 0, 0}, {"T.F*", 2, 16}, {"T.G*", 0, 0}, {"", 0, 0}, {"*", 0, 0}, {"S.", 0, 0}, {"S.*", 0, 0}, {"S.1*", 0, 0}, {"S.int*", 0, 0}, {"S.a b*", 0, 0}, {"S. a*", 0, 0}, {"i32 ", 0, 0}, {"i32*x", 0, 0},
		{"i24", 0, 0}, {"i8", -1, 0}, {"i8", 1<<31 - 1, 1<<31 - 1}, {"i8", 1 << 31, 0}, {"i64", 1 << 61, 0}, {"int", 0, 0}, {"S." + strings.Repeat("n", 31) + "*", 0, 0},
	} {
		if got := Size(text, c.typ, c.num); got != c.want {
			t.Errorf("P4.1: Size(%q, %d) = %d", c.typ, c.num, got)
		}
	}
	if Size("int", "i32", 0) != 0 {
		t.Error("P4.1: Size of a text that is wrong")
	}
}
