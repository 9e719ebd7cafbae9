package word

import (
	"math"
	"math/big"
	"testing"

	"spokeshave/api"
)

var (
	i8  = api.Width{Bits: 8, Signed: true}
	u8  = api.Width{Bits: 8}
	u16 = api.Width{Bits: 16}
	i32 = api.Width{Bits: 32, Signed: true}
	u32 = api.Width{Bits: 32}
	i64 = api.Width{Bits: 64, Signed: true}
	u64 = api.Width{Bits: 64}
)

// edges are numbers at which widths end.
var edges = []int64{0, 1, 2, 5, 31, 32, 63, 64, 127, 128, 255, 256, 1 << 15, 1<<31 - 1, 1 << 31, 1<<32 - 1, 1 << 32, 1<<62 + 1, math.MaxInt64, -1, -2, -3, -128, -1 << 31, -1<<31 - 1, math.MinInt64 + 1, math.MinInt64}

func TestWidths(t *testing.T) { // P1.1
	for _, c := range []struct {
		w       api.Width
		n, want int64
		is      bool
	}{
		{i8, 128, -128, false}, {i8, -128, -128, true}, {u8, -1, 255, false}, {u16, 1 << 16, 0, false},
		{i32, 1 << 31, math.MinInt32, false}, {u32, -1, 1<<32 - 1, false}, {u64, -1, -1, true}, {i64, 7, 7, true},
		{api.Width{Bits: 12}, 0, 0, false}, {api.Width{Bits: -8}, 3, 0, false},
	} {
		if got := Wrap(c.w, c.n); got != c.want || Is(c.w, c.n) != c.is {
			t.Errorf("P1.1: Wrap(%v, %d) = %d, Is %v", c.w, c.n, got, Is(c.w, c.n))
		}
	}
	if Usual(i64, u32) != i64 || Usual(u32, i32) != u32 || Usual(i8, u16) != i32 || Usual(u64, i64) != u64 || Usual(i8, api.Width{Bits: 9}) != (api.Width{}) {
		t.Error("P1.1: Usual")
	}
	if Promote(u16) != i32 || Promote(u32) != u32 || Promote(i64) != i64 {
		t.Error("P1.1: Promote")
	}
}

// exact is a told number of w as it is.
func exact(w api.Width, n int64) *big.Int {
	if w.Signed {
		return big.NewInt(n)
	}
	return new(big.Int).SetUint64(uint64(n))
}

func TestRing(t *testing.T) { // P1.2
	for _, w := range []api.Width{i32, u32, i64, u64} {
		for _, a := range edges {
			for _, b := range edges {
				x, y := exact(w, Wrap(w, a)), exact(w, Wrap(w, b))
				for sub, z := range map[int]*big.Int{api.Add: new(big.Int).Add(x, y), api.Sub: new(big.Int).Sub(x, y), api.Mul: new(big.Int).Mul(x, y)} {
					low := new(big.Int).And(z, new(big.Int).SetUint64(math.MaxUint64))
					n := Wrap(w, int64(low.Uint64()))
					ok := !w.Signed || exact(w, n).Cmp(z) == 0
					if !ok {
						n = 0
					}
					if got, is := Binary(w, sub, a, b); got != n || is != ok {
						t.Fatalf("P1.2: Binary(%v, %d, %d, %d) = %d, %v", w, sub, a, b, got, is)
					}
				}
			}
		}
	}
}

func TestBinaryEdges(t *testing.T) { // P1.2
	for _, c := range []struct {
		w       api.Width
		sub     int
		a, b, n int64
		ok      bool
	}{
		{i32, api.Shl, 1, 31, 0, false}, {i32, api.Shl, 1, 30, 1 << 30, true}, {u32, api.Shl, 3, 31, 1 << 31, true},
		{i32, api.Shl, -1, 1, 0, false}, {i32, api.Shl, 0, 31, 0, true}, {i64, api.Shl, 1, 63, 0, false},
		{u32, api.Shr, 5, 32, 0, false}, {u32, api.Shr, 5, -1, 0, false}, {i32, api.Shr, -8, 1, -4, true}, {u32, api.Sar, -8, 1, 1<<31 - 4, true},
		{i32, api.Div, -7, 2, -3, true}, {i32, api.UMod, -7, 2, -1, true}, {u64, api.Div, -1, 2, math.MaxInt64, true},
		{i32, api.Mod, math.MinInt32, -1, 0, false}, {i32, api.Div, math.MinInt32, -1, 0, false}, {i64, api.Mod, math.MinInt64, -1, 0, false},
		{i32, api.Mod, 7, -1, 0, true}, {u32, api.Mod, 7, -1, 7, true}, {i32, api.Div, 1, 0, 0, false}, {u64, api.UMod, 1, 0, 0, false},
		{u32, api.Lt, -1, 1, 0, true}, {i32, api.ULt, -1, 1, 1, true}, {u64, api.Le, -1, 1, 0, true}, {i32, api.Ne, 1 << 32, 0, 0, true},
		{u8, api.Add, 1, 1, 0, false}, {i32, 0, 1, 1, 0, false}, {i32, api.Subs, 1, 1, 0, false}, {u32, api.Xor, -1, 1, 1<<32 - 2, true},
	} {
		if got, ok := Binary(c.w, c.sub, c.a, c.b); got != c.n || ok != c.ok {
			t.Errorf("P1.2: Binary(%v, %d, %d, %d) = %d, %v", c.w, c.sub, c.a, c.b, got, ok)
		}
	}
	if n, ok := Negate(i32, math.MinInt32); ok || n != 0 {
		t.Error("P1.2: Negate of the least")
	}
	if n, ok := Negate(u32, 1); !ok || n != 1<<32-1 {
		t.Error("P1.2: Negate of an unsigned one")
	}
	if Invert(u32, 0) != 1<<32-1 || Invert(i64, 5) != -6 || Invert(u16, 0) != 0 {
		t.Error("P1.2: Invert")
	}
}

func TestPlain(t *testing.T) { // P1.3
	for _, c := range []struct {
		sub     int
		a, b, n int64
		ok      bool
	}{
		{api.Add, math.MaxInt64, 1, math.MinInt64, true}, {api.Div, math.MinInt64, -1, 0, false}, {api.Mod, math.MinInt64, -1, 0, false},
		{api.Div, -7, 2, -3, true}, {api.Mod, -7, 2, -1, true}, {api.UDiv, -1, 2, math.MaxInt64, true}, {api.UMod, -1, 10, 5, true}, {api.UDiv, 1, 0, 0, false},
		{api.Shl, 1, 65, 2, true}, {api.Shr, -1, 63, 1, true}, {api.Sar, -1, 63, -1, true}, {api.Shl, 1, -1, math.MinInt64, true},
		{api.Lt, -1, 0, 1, true}, {api.ULt, -1, 0, 0, true}, {api.ULe, 3, 3, 1, true}, {0, 1, 1, 0, false}, {99, 1, 1, 0, false},
	} {
		if got, ok := Plain(c.sub, c.a, c.b); got != c.n || ok != c.ok {
			t.Errorf("P1.3: Plain(%d, %d, %d) = %d, %v", c.sub, c.a, c.b, got, ok)
		}
	}
	if Text(i8) != "i8" || Text(u64) != "u64" || Text(api.Width{Bits: 1}) != "" {
		t.Error("P1.3: Text")
	}
}
