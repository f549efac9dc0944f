package bars

import (
	"iter"
	"slices"

	"gridworks/api"
	"gridworks/wires"
)

// link: a hop that can be taken either way, between the buses at its ends.
type link struct {
	hop  api.Hop
	ends [2]int
}

// grid: how many buses there are, and what joins them.
type grid struct {
	buses int
	links []link
}

// unreached: how far a bus is to which no way goes.
const unreached = -1

// inService: lines stand ahead of ties, each kind in its order: the first link that leads on is then the one to take.
func inService(n api.Net, out []bool) (grid, api.Errno) {
	if !wires.May(n) {
		return grid{}, api.ErrState
	}
	if len(out) != len(n.Lines) {
		return grid{}, api.ErrSize
	}
	var l []link
	for i, line := range n.Lines {
		if !out[i] {
			l = append(l, link{api.Hop{At: i}, [2]int{line.From, line.To}})
		}
	}
	return grid{len(n.Buses), append(l, closedTies(n)...)}, api.OK
}

func closedTies(n api.Net) []link {
	var l []link
	for i, t := range n.Ties {
		if t.Closed {
			l = append(l, link{api.Hop{Tie: true, At: i}, [2]int{t.From, t.To}})
		}
	}
	return l
}

func (g grid) has(bus int) bool { return bus >= 0 && bus < g.buses }

// onward: what leads on from a bus, and to which one.
func (g grid) onward(bus int) iter.Seq2[api.Hop, int] {
	return func(yield func(api.Hop, int) bool) {
		for _, l := range g.links {
			side := slices.Index(l.ends[:], bus)
			if side >= 0 && !yield(l.hop, l.ends[1-side]) {
				return
			}
		}
	}
}

// far: of each bus how many hops it is from this one.
func (g grid) far(from int) []int {
	far := slices.Repeat([]int{unreached}, g.buses)
	far[from] = 0
	reached := []int{from}
	for i := 0; i < len(reached); i++ {
		for _, next := range g.onward(reached[i]) {
			if far[next] == unreached {
				far[next] = far[reached[i]] + 1
				reached = append(reached, next)
			}
		}
	}
	return far
}

// groups: of each bus the number of those that it is joined with.
func (g grid) groups() []int {
	const none = -1
	group := slices.Repeat([]int{none}, g.buses)
	count := 0
	for first := range group {
		if group[first] != none {
			continue
		}
		for bus, hops := range g.far(first) {
			if hops != unreached {
				group[bus] = count
			}
		}
		count++
	}
	return group
}

// way: it is looked for from its end, so that at each bus it is known which links go on a shortest one.
func (g grid) way(a, b int) ([]api.Hop, api.Errno) {
	left := g.far(b)
	if left[a] == unreached {
		return nil, api.ErrSplit
	}
	var way []api.Hop
	for at := a; at != b; {
		for hop, next := range g.onward(at) {
			if left[next] == left[at]-1 {
				way, at = append(way, hop), next
				break
			}
		}
	}
	return way, api.OK
}

func (g grid) bridges() []int {
	var l []int
	for i, k := range g.links {
		rest := grid{g.buses, slices.Delete(slices.Clone(g.links), i, i+1)}
		if !k.hop.Tie && rest.far(k.ends[0])[k.ends[1]] == unreached {
			l = append(l, k.hop.At)
		}
	}
	return l
}
