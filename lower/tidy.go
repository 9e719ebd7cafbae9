package lower

import "spokeshave/api"

// only answers where a block leads that is nothing but a jump; -1, if it is more.
func only(b *api.Block) int {
	if len(b.Ins) == 1 && b.Ins[0].Op == api.OpJump {
		return b.Ins[0].To[0]
	}
	return -1
}

// tidy leads past blocks that are nothing but jumps, so that no step of a run is spent in them, and takes those away to which nothing leads then.
func tidy(blocks []api.Block) []api.Block {
	wanted := make([]bool, len(blocks))
	wanted[0] = true
	for k := range blocks {
		b := &blocks[k]
		if k > 0 && (len(b.Ins) == 0 || only(b) >= 0) {
			continue
		}
		wanted[k] = true
	}
	for k := range blocks {
		if !wanted[k] {
			continue
		}
		to := blocks[k].Ins[len(blocks[k].Ins)-1].To
		for i := range to {
			to[i] = past(blocks, to[i])
		}
	}
	// A ring of jumps alone stays: it is where a run without end goes round.
	for changed := true; changed; {
		changed = false
		for k := range blocks {
			if !wanted[k] {
				continue
			}
			for _, to := range blocks[k].Ins[len(blocks[k].Ins)-1].To {
				changed = changed || !wanted[to]
				wanted[to] = true
			}
		}
	}
	return packed(blocks, wanted)
}

// past answers the block that is come to from b over jumps alone.
func past(blocks []api.Block, b int) int {
	for range blocks {
		to := only(&blocks[b])
		if to < 0 {
			return b
		}
		b = to
	}
	return b
}

// packed keeps the blocks that are wanted.
func packed(blocks []api.Block, wanted []bool) []api.Block {
	place := make([]int, len(blocks))
	var out []api.Block
	for k := range blocks {
		if wanted[k] {
			place[k] = len(out)
			out = append(out, blocks[k])
		}
	}
	for k := range out {
		to := out[k].Ins[len(out[k].Ins)-1].To
		for i := range to {
			to[i] = place[to[i]]
		}
	}
	return out
}
