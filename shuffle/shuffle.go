// Package shuffle brings moves that are to be done at once into an order, for tail calls and for the layer of moves.
package shuffle

// Move brings what From has into To.
type Move struct{ To, From int }

// Order answers moves that, done one behind the other, do these at once. No To comes twice, and spare is none of their places. One more move is made for each ring, and none from a place to itself.
func Order(ms []Move, spare int) []Move {
	from := map[int]int{}
	readers := map[int]int{}
	for _, m := range ms {
		if m.To != m.From {
			from[m.To] = m.From
			readers[m.From]++
		}
	}
	var out []Move
	// drain does the move into a place that nothing waits to read, and those that it sets free.
	drain := func(to int) {
		for {
			f, ok := from[to]
			if !ok || readers[to] > 0 {
				return
			}
			out = append(out, Move{To: to, From: f})
			delete(from, to)
			readers[f]--
			to = f
		}
	}
	for _, m := range ms {
		drain(m.To)
	}
	// What is left are rings.
	for _, m := range ms {
		if _, ok := from[m.To]; !ok {
			continue
		}
		out = append(out, Move{To: spare, From: m.To})
		for to := m.To; ; {
			f := from[to]
			delete(from, to)
			if f == m.To {
				out = append(out, Move{To: to, From: spare})
				break
			}
			out = append(out, Move{To: to, From: f})
			to = f
		}
	}
	return out
}
