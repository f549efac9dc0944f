package yard

import (
	"slices"

	"gridworks/api"
)

// place on a way: a yard at work, which of its devices are closed, as bits, and which move led to it from which place.
type place struct {
	atWork
	closed   int
	by, from int
}

// plan: places are reached in the order of their shortest ways, of one length in the order of their moves; so the way that reaches the goal first is the one that is asked for.
func (w atWork) plan(goal []bool) ([]int, api.Errno) {
	end := bits(goal, func(closed bool) bool { return closed })
	first := place{atWork: w, closed: bits(w.Devices, func(d api.Device) bool { return d.Closed })}
	reached := []place{first}
	var known [1 << api.MaxDevices]bool
	known[first.closed] = true
	for at := 0; at < len(reached); at++ {
		here := reached[at]
		if here.closed == end {
			return way(reached, at), api.OK
		}
		for k := range w.Devices {
			closed := here.closed ^ 1<<k
			if known[closed] {
				continue
			}
			if next, e := here.move(k); e == api.OK {
				known[closed] = true
				reached = append(reached, place{atWork: next, closed: closed, by: k, from: at})
			}
		}
	}
	return nil, api.ErrNone
}

// bits: for which of a list it holds.
func bits[T any](l []T, holds func(T) bool) int {
	set := 0
	for k, x := range l {
		if holds(x) {
			set |= 1 << k
		}
	}
	return set
}

// way: the moves that led from the first place to this one.
func way(reached []place, at int) []int {
	var moves []int
	for ; at > 0; at = reached[at].from {
		moves = append(moves, reached[at].by)
	}
	slices.Reverse(moves)
	return moves
}
