// Package span reckons which registers are read later, with sets as bits, for live and for the layers that ask it often.
package span

import (
	"math/bits"

	"spokeshave/api"
	"spokeshave/walk"
)

// Set is a set of registers, as bits.
type Set []uint64

// New answers an empty set of registers below n.
func New(n int) Set { return make(Set, (max(n, 0)+63)/64) }

// Has tells whether r is in the set.
func (s Set) Has(r int) bool { return s[r>>6]>>(uint(r)&63)&1 == 1 }

// Add adds r.
func (s Set) Add(r int) { s[r>>6] |= 1 << (uint(r) & 63) }

// Drop takes r away.
func (s Set) Drop(r int) { s[r>>6] &^= 1 << (uint(r) & 63) }

// Count answers how many there are.
func (s Set) Count() int {
	n := 0
	for _, w := range s {
		n += bits.OnesCount64(w)
	}
	return n
}

// List answers them, rising.
func (s Set) List() []int {
	var out []int
	s.Each(func(r int) { out = append(out, r) })
	return out
}

// Each goes over them, rising.
func (s Set) Each(do func(r int)) {
	for k, w := range s {
		for ; w != 0; w &= w - 1 {
			do(64*k + bits.TrailingZeros64(w))
		}
	}
}

// Live is what is live at each block's beginning, and behind its end.
type Live struct {
	In, Out []Set
	fn      *api.Fn
	needed  bool
}

// Of reckons what is live in a function.
func Of(f *api.Fn) *Live { return reckon(f, false) }

// Needed reckons likewise, but what is read only by pure instructions whose own answer is not needed does not count.
func Needed(f *api.Fn) *Live { return reckon(f, true) }

func reckon(f *api.Fn, needed bool) *Live {
	n := len(f.Blocks)
	l := &Live{In: make([]Set, n), Out: make([]Set, n), fn: f, needed: needed}
	before := make([][]int, n)
	for b := range f.Blocks {
		l.In[b], l.Out[b] = New(f.Regs), New(f.Regs)
		ins := f.Blocks[b].Ins
		for _, to := range walk.To(&ins[len(ins)-1]) {
			before[to] = append(before[to], b)
		}
	}
	waiting := make([]int, n)
	waits := make([]bool, n)
	for b := range waiting {
		waiting[b], waits[b] = b, true
	}
	now := New(f.Regs)
	for len(waiting) > 0 {
		b := waiting[len(waiting)-1]
		waiting = waiting[:len(waiting)-1]
		waits[b] = false
		copy(now, l.Out[b])
		l.Back(b, now, nil)
		copy(l.In[b], now)
		for _, p := range before[b] {
			if join(l.Out[p], now) && !waits[p] {
				waits[p] = true
				waiting = append(waiting, p)
			}
		}
	}
	return l
}

// join adds all of from; it tells whether some was not there.
func join(to Set, from Set) bool {
	more := uint64(0)
	for k, w := range from {
		more |= w &^ to[k]
		to[k] |= w
	}
	return more != 0
}

// Back goes up a block, with now what is live; it shows what is live right behind each instruction, ahead of taking it in.
func (l *Live) Back(b int, now Set, show func(k int, now Set)) {
	ins := l.fn.Blocks[b].Ins
	var room [8]int
	for k := len(ins) - 1; k >= 0; k-- {
		i := &ins[k]
		if show != nil {
			show(k, now)
		}
		d := walk.Def(i)
		if d >= 0 {
			if l.needed && walk.Pure(i) && !now.Has(d) {
				continue
			}
			now.Drop(d)
		}
		for _, r := range walk.Uses(i, room[:0]) {
			now.Add(r)
		}
	}
}

// Walk goes up each block, and shows what is live right behind each instruction. The set is good till show answers.
func (l *Live) Walk(show func(b int, k int, now Set)) {
	now := New(l.fn.Regs)
	for b := range l.fn.Blocks {
		copy(now, l.Out[b])
		l.Back(b, now, func(k int, now Set) { show(b, k, now) })
	}
}
