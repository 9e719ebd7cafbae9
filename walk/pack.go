package walk

import "spokeshave/api"

// Pack gives the registers of a function new numbers, so that it has no more than are named in it. Its instructions are changed in place.
func Pack(f *api.Fn) {
	place := map[int]int{}
	for r := range f.Params {
		place[r] = r
	}
	for b := range f.Blocks {
		for k := range f.Blocks[b].Ins {
			Rename(&f.Blocks[b].Ins[k], func(r int) int {
				at, ok := place[r]
				if !ok {
					at = len(place)
					place[r] = at
				}
				return at
			})
		}
	}
	f.Regs = len(place)
}
