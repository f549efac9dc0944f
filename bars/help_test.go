package bars_test

import (
	"math/rand/v2"
	"slices"
	"strconv"
	"testing"

	"gridworks/api"
	"gridworks/bars"
)

// pair of buses.
type pair [2]int

// network of so many buses, with these lines and closed ties.
func network(buses int, lines, ties []pair) api.Net {
	n := api.Net{Name: "n"}
	for i := range buses {
		n.Buses = append(n.Buses, "b"+strconv.Itoa(i))
	}
	for i, p := range lines {
		n.Lines = append(n.Lines, api.Line{Name: "l" + strconv.Itoa(i), From: p[0], To: p[1], Worth: 1 + i, Limit: 10 * i})
	}
	for i, p := range ties {
		n.Ties = append(n.Ties, api.Tie{Name: "t" + strconv.Itoa(i), From: p[0], To: p[1], Closed: true})
	}
	return n
}

// opened: a network with these ties open.
func opened(n api.Net, ties ...int) api.Net {
	n.Ties = slices.Clone(n.Ties)
	for _, i := range ties {
		n.Ties[i].Closed = false
	}
	return n
}

// without: which lines are out, told by their places.
func without(n api.Net, lines ...int) []bool {
	out := make([]bool, len(n.Lines))
	for _, i := range lines {
		out[i] = true
	}
	return out
}

// line and tie: hops.
func line(at int) api.Hop { return api.Hop{At: at} }
func tie(at int) api.Hop  { return api.Hop{Tie: true, At: at} }

func wantNodes(t *testing.T, n api.Net, want ...int) {
	t.Helper()
	if l, e := bars.Nodes(n); e != api.OK || !slices.Equal(l, want) {
		t.Errorf("Nodes(%+v): %v, %d; %v is wanted", n, l, e, want)
	}
}

func wantIslands(t *testing.T, n api.Net, out []bool, want ...int) {
	t.Helper()
	if l, e := bars.Islands(n, out); e != api.OK || !slices.Equal(l, want) {
		t.Errorf("Islands(%+v, %v): %v, %d; %v is wanted", n, out, l, e, want)
	}
}

func wantWay(t *testing.T, n api.Net, out []bool, a, b int, want ...api.Hop) {
	t.Helper()
	if l, e := bars.Way(n, out, a, b); e != api.OK || !slices.Equal(l, want) {
		t.Errorf("Way(%+v, %v, %d, %d): %v, %d; %v is wanted", n, out, a, b, l, e, want)
	}
}

func wantBridges(t *testing.T, n api.Net, out []bool, want ...int) {
	t.Helper()
	if l, e := bars.Bridges(n, out); e != api.OK || !slices.Equal(l, want) {
		t.Errorf("Bridges(%+v, %v): %v, %d; %v is wanted", n, out, l, e, want)
	}
}

// noWay: whether a way is refused like this, with no hop beside it.
func noWay(t *testing.T, n api.Net, out []bool, a, b int, want api.Errno) {
	t.Helper()
	if l, e := bars.Way(n, out, a, b); e != want || len(l) != 0 {
		t.Errorf("Way(%+v, %v, %d, %d): %v, %d; %d is wanted", n, out, a, b, l, e, want)
	}
}

// refused: whether all that asks which lines are out refuses like this, with nothing beside it.
func refused(t *testing.T, n api.Net, out []bool, want api.Errno) {
	t.Helper()
	if l, e := bars.Islands(n, out); e != want || len(l) != 0 {
		t.Errorf("Islands(%+v, %v): %v, %d; %d is wanted", n, out, l, e, want)
	}
	if l, e := bars.Bridges(n, out); e != want || len(l) != 0 {
		t.Errorf("Bridges(%+v, %v): %v, %d; %d is wanted", n, out, l, e, want)
	}
	noWay(t, n, out, 0, 1, want)
	noWay(t, n, out, 0, 0, want)
	noWay(t, n, out, -1, len(n.Buses), want)
}

// drawn: a network of at most so many buses, lines and ties, and which lines are out.
func drawn(d *rand.Rand, buses, lines, ties int) (api.Net, []bool) {
	b := 2 + d.IntN(buses-1)
	pairs := func(most int) []pair {
		l := make([]pair, d.IntN(most+1))
		for i := range l {
			x := d.IntN(b)
			l[i] = pair{x, (x + 1 + d.IntN(b-1)) % b}
		}
		return l
	}
	n := network(b, pairs(lines), pairs(ties))
	for i := range n.Ties {
		n.Ties[i].Closed = d.IntN(2) == 0
	}
	out := make([]bool, len(n.Lines))
	for i := range out {
		out[i] = d.IntN(5) == 0
	}
	return n, out
}

// step: an element that can be gone over, and its ends.
type step struct {
	hop api.Hop
	at  pair
}

// steps: lines in service, then closed ties.
func steps(n api.Net, out []bool) []step {
	var l []step
	for i, k := range n.Lines {
		if !out[i] {
			l = append(l, step{line(i), pair{k.From, k.To}})
		}
	}
	for i, k := range n.Ties {
		if k.Closed {
			l = append(l, step{tie(i), pair{k.From, k.To}})
		}
	}
	return l
}

// merged: of each of these buses the number of those that steps join it with, by names that are laid over each other.
func merged(buses int, l []step) []int {
	name := make([]int, buses)
	for i := range name {
		name[i] = i
	}
	for _, s := range l {
		from, to := name[s.at[0]], name[s.at[1]]
		for i := range name {
			if name[i] == from {
				name[i] = to
			}
		}
	}
	number := map[int]int{}
	for i, k := range name {
		if _, known := number[k]; !known {
			number[k] = len(number)
		}
		name[i] = number[k]
	}
	return name
}

// tried: the first way of so many steps, all ways being tried in the order of the steps.
func tried(l []step, a, b, length int) ([]api.Hop, bool) {
	if length == 0 {
		return nil, a == b
	}
	for _, s := range l {
		for side := range 2 {
			if s.at[side] != a {
				continue
			}
			if rest, ok := tried(l, s.at[1-side], b, length-1); ok {
				return append([]api.Hop{s.hop}, rest...), true
			}
		}
	}
	return nil, false
}
