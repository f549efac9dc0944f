package works

import (
	"slices"

	"gridworks/api"
)

// starting: the buses on which generators stand that are on and can start alone.
func starting(w api.World, black []bool) []bool {
	first := make([]bool, len(w.Net.Buses))
	for i, g := range w.Net.Gens {
		if w.On[i] && black[i] {
			first[g.Bus] = true
		}
	}
	return first
}

// spread: the order in which buses get live, wave by wave, from the first ones on; of one wave rising.
func spread(w api.World, first []bool) []int {
	var order []int
	live := make([]bool, len(first))
	for wave := first; slices.Contains(wave, true); wave = onward(w, live) {
		for bus, reached := range wave {
			if reached {
				live[bus] = true
				order = append(order, bus)
			}
		}
	}
	return order
}

// onward: the buses that are not live, one hop away from those that are.
func onward(w api.World, live []bool) []bool {
	next := make([]bool, len(live))
	hop := func(from, to int) {
		if live[from] && !live[to] {
			next[to] = true
		}
	}
	for i, l := range w.Net.Lines {
		if !w.Out[i] {
			hop(l.From, l.To)
			hop(l.To, l.From)
		}
	}
	for _, t := range w.Net.Ties {
		if t.Closed {
			hop(t.From, t.To)
			hop(t.To, t.From)
		}
	}
	return next
}
