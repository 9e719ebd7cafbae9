// Package alike holds what a pass makes against what it was handed, for the passes' tests.
package alike

import (
	"bytes"

	"spokeshave/api"
	"spokeshave/ir"
	"spokeshave/lower"
	"spokeshave/run"
	"spokeshave/sample"
)

// Text answers the program of a text; zero, if that is wrong.
func Text(s string) api.Prog {
	p, _ := lower.Prog(s)
	return p
}

// Runs tells whether q does what p does on an input, if that is Exited with so much fuel: with 8 times as much, and 2,000.
func Runs(p api.Prog, q api.Prog, input string, fuel int) bool {
	if !ir.Check(q) {
		return false
	}
	want := ir.Run(p, []byte(input), fuel)
	if want.Kind != api.Exited {
		return true
	}
	got := ir.Run(q, []byte(input), min(8*fuel+2000, api.MaxFuel))
	return got.Kind == want.Kind && got.Code == want.Code && bytes.Equal(got.Out, want.Out)
}

// Fuel answers the least fuel with which p is Exited; -1, if there is none up to most.
func Fuel(p api.Prog, input string, most int) int {
	if ir.Run(p, []byte(input), most).Kind != api.Exited {
		return -1
	}
	low, high := 0, most
	for low < high {
		mid := (low + high) / 2
		if ir.Run(p, []byte(input), mid).Kind == api.Exited {
			high = mid
		} else {
			low = mid + 1
		}
	}
	return low
}

// Sample answers the program of a sample, if its text's run is Exited.
func Sample(seed int, input string) (api.Prog, bool) {
	s := sample.Program(seed)
	if seed%5 < 2 {
		s = sample.Typed(seed)
	}
	if run.Program(s, []byte(input), 20000).Kind != api.Exited {
		return api.Prog{}, false
	}
	return Text(s), true
}

// Pass tells what is wrong of what a pass makes of p: it may not be, it does something else, or p is changed; empty, if nothing is.
func Pass(p api.Prog, input string, pass func(api.Prog) api.Prog) string {
	before := ir.Copy(p)
	q := pass(p)
	switch {
	case !ir.Same(p, before):
		return "what is handed in is changed"
	case !ir.Check(q):
		return "what is made may not be"
	}
	fuel := Fuel(p, input, 100000)
	if fuel >= 0 && !Runs(p, q, input, fuel) {
		return "what is made does something else"
	}
	return ""
}
