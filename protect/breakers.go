package protect

import (
	"slices"

	"gridworks/api"
)

// areAhead: is each one behind a smaller number, or behind none?
func areAhead(behind []int) bool {
	for k, b := range behind {
		if b < -1 || b >= k {
			return false
		}
	}
	return true
}

// times: from the last one on, since whoever is behind a breaker has a greater number, and its time is known then.
func times(behind []int, base, step int) []int {
	l := slices.Repeat([]int{base}, len(behind))
	for k, b := range slices.Backward(behind) {
		if b >= 0 {
			l[b] = max(l[b], l[k]+step)
		}
	}
	return l
}

// arePlaced: does each breaker stand between two unlike parts that there are?
func arePlaced(cuts []api.Cut, parts int) bool {
	for _, c := range cuts {
		if !isUpTo(parts-1, c.A) || !isUpTo(parts-1, c.B) || c.A == c.B {
			return false
		}
	}
	return true
}

// trip all breakers of what is dark, and again, as long as stuck ones darken more.
func trip(parts int, cuts []api.Cut, fault int, stuck []bool) ([][]int, []bool) {
	var steps [][]int
	tripped := make([]bool, len(cuts))
	dark := make([]bool, parts)
	dark[fault] = true
again:
	var opened []int
	next := slices.Clone(dark)
	for k, c := range cuts {
		if tripped[k] || !dark[c.A] && !dark[c.B] {
			continue
		}
		tripped[k] = true
		if stuck[k] {
			next[c.A], next[c.B] = true, true
		} else {
			opened = append(opened, k)
		}
	}
	steps = append(steps, opened)
	if !slices.Equal(next, dark) {
		dark = next
		goto again
	}
	return steps, dark
}
