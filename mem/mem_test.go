package mem

import (
	"math"
	"testing"
)

func at(b int, off int) Value { return Value{Kind: Pointer, Block: b, Off: off} }

func num(n int64) Value { return Value{Kind: Number, N: n} }

func TestCells(t *testing.T) { // P6.1
	m := New()
	cells := []Cell{{0, "i32"}, {4, "i8"}, {4, "i16"}, {90, "i32"}, {-4, "i32"}}
	b := m.Add(8, cells...)
	c := m.Add(-5)
	cells[0] = Cell{1, "i8"}
	if b != 1 || c != 2 || m.Size(b) != 8 || m.Size(c) != 1 || m.Size(3) != 0 || m.Size(0) != 0 {
		t.Error("P6.1: Add, Size")
	}
	if _, ok := m.Read(at(b, 0), "i32"); ok {
		t.Error("P6.1: Read of an unset one")
	}
	for i, w := range []struct {
		p   Value
		typ string
		ok  bool
	}{
		{at(b, 0), "i32", true}, {at(b, 4), "i8", true}, {at(b, 90), "i32", true}, {at(b, -4), "i32", true}, {at(b, 4), "i16", false}, {at(b, 0), "u32", false}, {at(b, 1), "i8", false},
		{at(c, 0), "i32", false}, {at(0, 0), "i32", false}, {at(7, 0), "i32", false}, {num(1), "i32", false}, {Value{Kind: Function, Block: b}, "i32", false},
	} {
		v := num(int64(i) + 10)
		if ok := m.Write(w.p, w.typ, v); ok != w.ok {
			t.Errorf("P6.1: Write, the %d-th: %v", i, ok)
		}
		got, ok := m.Read(w.p, w.typ)
		if ok != w.ok || ok && got != v || !ok && got != (Value{}) {
			t.Errorf("P6.1: Read, the %d-th: %v %v", i, got, ok)
		}
	}
	if v, _ := m.Read(at(b, 0), "i32"); v != num(10) {
		t.Error("P6.1: cells hold apart")
	}
	if !m.Write(at(b, 0), "i32", Value{}) {
		t.Error("P6.1: Write of unset")
	}
	if _, ok := m.Read(at(b, 0), "i32"); ok {
		t.Error("P6.1: it holds unset, too")
	}
	m.End(b)
	m.End(b)
	m.End(99)
	if _, ok := m.Read(at(b, 4), "i8"); ok || m.Size(b) != 0 || m.Write(at(b, 4), "i8", num(1)) {
		t.Error("P6.1: End")
	}
	if m.Add(1) != 3 {
		t.Error("P6.1: no number twice")
	}
}

func TestMove(t *testing.T) { // P6.2
	m := New()
	b, gone := m.Add(8), m.Add(8)
	m.End(gone)
	for i, c := range []struct {
		p    Value
		by   int64
		want Value
		ok   bool
	}{
		{at(b, 0), 8, at(b, 8), true}, {at(b, 8), -8, at(b, 0), true}, {at(b, 8), 0, at(b, 8), true}, {at(b, 3), 0, at(b, 3), true}, {Value{Kind: Pointer, N: 5, Block: b, Off: 2}, 3, at(b, 5), true},
		{at(b, 0), 9, Value{}, false}, {at(b, 0), -1, Value{}, false}, {at(b, 8), 1, Value{}, false}, {at(b, 8), -9, Value{}, false}, {at(b, 5), math.MaxInt64, Value{}, false}, {at(b, 8), math.MinInt64, Value{}, false},
		{at(b, 9), -1, Value{}, false}, {at(b, 9), -9, Value{}, false}, {at(b, 9), 0, Value{}, false}, {at(b, -1), 1, Value{}, false}, {at(b, -1), 9, Value{}, false}, {at(b, -1), 0, Value{}, false}, {at(b, 20), -15, Value{}, false},
		{at(b, math.MinInt+1), math.MaxInt64, Value{}, false}, {at(b, math.MaxInt), math.MinInt64 + 1, Value{}, false}, {at(b, math.MinInt), math.MinInt64, Value{}, false}, {at(b, math.MaxInt), math.MaxInt64, Value{}, false},
		{at(gone, 3), 0, Value{}, false}, {at(0, 0), 0, Value{}, false}, {at(9, 0), 0, Value{}, false}, {num(0), 0, Value{}, false}, {Value{Kind: Function, Block: b}, 0, Value{}, false}, {Value{Block: b}, 0, Value{}, false},
	} {
		if got, ok := m.Move(c.p, c.by); got != c.want || ok != c.ok {
			t.Errorf("P6.2: Move, the %d-th: %v %v", i, got, ok)
		}
	}
}

func TestHeld(t *testing.T) { // P6.2
	m := New()
	a, b, gone := m.Add(4), m.Add(4), m.Add(4)
	m.End(gone)
	none, fn := at(0, 0), Value{Kind: Function, N: 3}
	for i, c := range []struct {
		p, q     Value
		same, ok bool
	}{
		{num(1), num(1), true, true}, {num(1), num(2), false, true}, {fn, fn, true, true}, {fn, Value{Kind: Function}, false, true}, {none, none, true, true}, {fn, none, false, true}, {none, fn, false, true},
		{at(a, 1), at(a, 1), true, true}, {at(a, 1), at(a, 2), false, true}, {at(a, 4), at(a, 4), true, true}, {at(a, 1), at(b, 1), false, true}, {at(a, 4), at(b, 0), false, false}, {at(b, 0), at(a, 4), false, false},
		{at(a, 4), none, false, false}, {at(a, 3), none, false, true}, {at(a, 9), at(b, 0), false, true}, {at(gone, 0), at(a, 0), false, false}, {at(gone, 0), none, false, false}, {at(gone, 1), at(gone, 1), true, true}, {at(gone, 1), at(gone, 2), false, true},
		{at(0, 5), none, false, true}, {at(0, 5), at(a, 0), false, false}, {num(0), none, false, false}, {Value{}, Value{}, false, false}, {Value{Kind: 9}, Value{Kind: 9}, false, false}, {fn, at(a, 0), false, false}, {num(1), fn, false, false}, {Value{}, none, false, false},
	} {
		if same, ok := m.Equal(c.p, c.q); same != c.same || ok != c.ok {
			t.Errorf("P6.2: Equal, the %d-th: %v %v", i, same, ok)
		}
	}
	for i, c := range []struct {
		p, q Value
		by   int64
		ok   bool
	}{
		{at(a, 1), at(a, 4), -3, true}, {at(a, 4), at(a, 0), 4, true}, {at(a, 2), at(a, 2), 0, true}, {at(a, 5), at(a, 0), 0, false}, {at(a, 0), at(a, -1), 0, false}, {at(a, 0), at(b, 0), 0, false}, {at(gone, 0), at(gone, 0), 0, false}, {none, none, 0, false}, {num(1), num(2), 0, false},
	} {
		less, ok := m.Less(c.p, c.q)
		by, is := m.Distance(c.p, c.q)
		if less != (c.by < 0) || ok != c.ok || by != c.by || is != c.ok {
			t.Errorf("P6.2: Less, Distance, the %d-th: %v %v %d %v", i, less, ok, by, is)
		}
	}
}

func TestNil(t *testing.T) { // R3
	none(t, nil)
	none(t, &Mem{})
}

// none holds that a memory is none.
func none(t *testing.T, m *Mem) {
	t.Helper()
	m.End(1)
	v, ok := m.Read(at(1, 0), "i8")
	w, is := m.Move(at(1, 0), 0)
	l, k := m.Less(at(1, 0), at(1, 0))
	e, q := m.Equal(num(1), num(1))
	d, r := m.Distance(at(1, 0), at(1, 0))
	if m.Add(1) != 0 || m.Size(1) != 0 || m.Write(at(1, 0), "i8", v) || ok || is || l || k || e || q || d != 0 || r || w != v {
		t.Error("R3: a nil one")
	}
}
