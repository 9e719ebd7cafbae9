package moves

import "testing"

func TestMay(t *testing.T) { // P21.1
	many := make([]Move, mostMoves+1)
	for k := range many {
		many[k] = Move{k, k + 1}
	}
	for k, c := range []struct {
		ms  []Move
		may bool
	}{{nil, true}, {[]Move{{1, 2}, {2, 1}}, true}, {[]Move{{1, 2}, {1, 3}}, false}, {[]Move{{1, 1}, {1, 1}}, false}, {[]Move{{-1, 2}}, false}, {[]Move{{1, -2}}, false}, {[]Move{{0, 0}}, true}, {many, false}, {many[1:], true}} {
		if May(c.ms) != c.may {
			t.Errorf("P21.1: May, the %d-th", k)
		}
		if got, ok := Order(c.ms, 99); ok != c.may || !ok && got != nil {
			t.Errorf("P21.1: Order, the %d-th: %v %v", k, got, ok)
		}
	}
	for _, spare := range []int{-1, 1, 2, 5} {
		if got, ok := Order([]Move{{1, 2}, {5, 5}}, spare); ok || got != nil {
			t.Errorf("P21.1: spare %d: %v", spare, got)
		}
	}
}

// rings answers how many rings there are of moves.
func rings(ms []Move) int {
	from := map[int]int{}
	for _, m := range ms {
		from[m.To] = m.From
	}
	n := 0
	for _, m := range ms {
		at, least := m.From, m.To
		for steps := 0; steps < 70 && at != m.To; steps++ {
			next, ok := from[at]
			if !ok {
				break
			}
			least = min(least, at)
			at = next
		}
		if at == m.To && m.From != m.To && least == m.To {
			n++
		}
	}
	return n
}

func TestOrder(t *testing.T) { // P21.1
	if got, ok := Order([]Move{{1, 2}, {2, 1}}, 9); !ok || len(got) != 3 {
		t.Errorf("P21.1: %v", got)
	}
	seed := uint32(1)
	pick := func(n int) int {
		seed = seed*1664525 + 1013904223
		return int(seed>>8) % n
	}
	for round := range 20000 {
		places := 1 + pick(9)
		if round%100 == 0 {
			places = 64
		}
		var ms []Move
		for to := range places {
			if pick(4) > 0 {
				ms = append(ms, Move{to, pick(places)})
			}
		}
		for k := range ms {
			j := pick(len(ms))
			ms[k], ms[j] = ms[j], ms[k]
		}
		got, ok := Order(ms, 100)
		if !ok {
			t.Fatalf("P21.1: %v", ms)
		}
		has := map[int]int{}
		for p := range 101 {
			has[p] = p
		}
		for _, m := range got {
			if m.To == m.From {
				t.Fatalf("P21.1: to itself: %v of %v", got, ms)
			}
			has[m.To] = has[m.From]
		}
		want := map[int]int{}
		others := 0
		for _, m := range ms {
			want[m.To] = m.From
			if m.To != m.From {
				others++
			}
		}
		for p := range 100 {
			w, told := want[p]
			if !told {
				w = p
			}
			if has[p] != w {
				t.Fatalf("P21.1: place %d has %d: %v of %v", p, has[p], got, ms)
			}
		}
		if len(got) > others+rings(ms) {
			t.Fatalf("P21.1: %d moves for %v", len(got), ms)
		}
	}
}
