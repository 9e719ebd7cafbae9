package play

import (
	"reflect"
	"sync"
	"testing"

	"spokeshave/api"
	"spokeshave/drive"
	"spokeshave/sample"
)

func TestRun(t *testing.T) { // P26.1
	if got := Run("", nil, 99); !reflect.DeepEqual(got, Told{Wrong: api.Wrong{Code: api.ErrMain}}) {
		t.Errorf("P26.1: %v", got)
	}
	if got := Run("int main() { return x; }", nil, 99, drive.Sets(9)...); !reflect.DeepEqual(got, Told{Wrong: api.Wrong{Code: api.ErrName}}) {
		t.Errorf("P26.1: %v", got)
	}
	s := "int main() { putbyte(getbyte() + 1); return 300; }"
	exited := api.Outcome{Kind: api.Exited, Code: 44, Out: []byte("B")}
	got := Run(s, []byte("A"), 99, drive.Sets(9)...)
	if got.Steps != 8 || !Alike(got.Source, exited) || len(got.Ways) != 16 {
		t.Fatalf("P26.1: %v", got)
	}
	for k, w := range got.Ways {
		if w.Flags != drive.Sets(9)[k] || !Alike(w.Middle, exited) || !Alike(w.Machine, exited) {
			t.Errorf("P26.1: the %d-th way: %v", k, w)
		}
	}
	if got := Run(s, []byte("A"), 99); got.Ways != nil || !Alike(got.Source, exited) {
		t.Errorf("P26.1: no sets: %v", got)
	}
	for body, kind := range map[string]int{"return 1 / 0;": api.Undefined, "while (1) ;": api.OutOfFuel} {
		if got := Run("int main() {"+body+"}", nil, 99, drive.All(9)); got.Source.Kind != kind || got.Ways != nil || got.Wrong.Code != api.OK || got.Steps == 0 {
			t.Errorf("P26.1: %s: %v", body, got)
		}
	}
	if got := Run(s, nil, -1, drive.All(9)); got.Source.Kind != api.Invalid || got.Steps != 0 || got.Ways != nil {
		t.Errorf("P26.1: %v", got)
	}
	if got := Run("int f(int n) { long a[4000]; a[0] = n; if (n == 0) return 1; return f(n - 1) + 1; } int main() { return f(5); }", nil, 999, api.Flags{}); got.Ways[0].Machine.Kind != api.Exited {
		t.Errorf("P26.1: %v", got)
	}
}

func TestAlike(t *testing.T) { // P26.1
	a := api.Outcome{Kind: api.Exited, Code: 1, Out: []byte("x")}
	for k, c := range []struct {
		b    api.Outcome
		same bool
	}{{a, true}, {api.Outcome{Kind: api.Exited, Code: 1, Out: []byte("xy")}, false}, {api.Outcome{Kind: api.Exited, Code: 2, Out: []byte("x")}, false}, {api.Outcome{Kind: api.Overflow, Code: 1, Out: []byte("x")}, false}} {
		if Alike(a, c.b) != c.same {
			t.Errorf("P26.1: Alike, the %d-th", k)
		}
	}
	if !Alike(api.Outcome{Out: []byte{}}, api.Outcome{}) {
		t.Error("P26.1: no bytes")
	}
}

func TestSamples(t *testing.T) { // P26.1
	for seed := range 8 {
		told := Run(sample.Program(500+seed), []byte("ab"), 20000, drive.Sets(40)...)
		if told.Wrong.Code != api.OK {
			t.Fatalf("seed %d: %v", seed, told.Wrong)
		}
		for _, w := range told.Ways {
			if !Alike(w.Middle, told.Source) || !Alike(w.Machine, told.Source) {
				t.Fatalf("T3: seed %d: %v", seed, w)
			}
		}
	}
}

func TestAtOnce(t *testing.T) { // R5: from several goroutines at one time
	s := sample.Program(77)
	want := Run(s, []byte("ab"), 20000, drive.Sets(40)...)
	var all sync.WaitGroup
	for range 6 {
		all.Add(1)
		go func() {
			defer all.Done()
			if got := Run(s, []byte("ab"), 20000, drive.Sets(40)...); !reflect.DeepEqual(got, want) {
				t.Error("R5: it comes to something else")
			}
		}()
	}
	all.Wait()
}
