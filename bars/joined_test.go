package bars_test

import (
	"math/rand/v2"
	"slices"
	"strings"
	"testing"

	"gridworks/api"
	"gridworks/bars"
)

// P3.1: nodes are joined by closed ties alone, and numbered in the order of their first buses.
func TestNodes(t *testing.T) {
	wantNodes(t, api.Net{Name: "n"})
	wantNodes(t, network(1, nil, nil), 0)
	wantNodes(t, network(3, []pair{{0, 1}, {1, 2}}, nil), 0, 1, 2)
	wantNodes(t, network(3, nil, []pair{{2, 1}}), 0, 1, 1)
	wantNodes(t, network(3, nil, []pair{{2, 0}}), 0, 1, 0)
	wantNodes(t, network(5, nil, []pair{{4, 1}, {3, 0}}), 0, 1, 2, 0, 1)
	wantNodes(t, network(5, nil, []pair{{4, 3}, {3, 2}, {2, 1}, {1, 0}}), 0, 0, 0, 0, 0)
	wantNodes(t, network(6, nil, []pair{{5, 2}, {2, 5}, {5, 2}, {1, 4}, {4, 2}}), 0, 1, 1, 2, 1, 1)
	n := network(4, []pair{{0, 3}}, []pair{{0, 1}, {1, 2}, {3, 2}})
	wantNodes(t, n, 0, 0, 0, 0)
	wantNodes(t, opened(n, 0), 0, 1, 1, 1)
	wantNodes(t, opened(n, 1), 0, 0, 1, 1)
	wantNodes(t, opened(n, 0, 2), 0, 1, 1, 2)
	wantNodes(t, opened(n, 0, 1, 2), 0, 1, 2, 3)
}

// P3.1: islands are joined by lines in service and closed ties, and numbered likewise.
func TestIslands(t *testing.T) {
	wantIslands(t, api.Net{Name: "n"}, nil)
	wantIslands(t, api.Net{Name: "n"}, []bool{})
	wantIslands(t, network(3, nil, nil), nil, 0, 1, 2)
	n := network(6, []pair{{5, 0}, {4, 1}, {1, 3}, {3, 4}}, []pair{{2, 5}, {0, 1}})
	wantIslands(t, n, without(n), 0, 0, 0, 0, 0, 0)
	n = opened(n, 1)
	wantIslands(t, n, without(n), 0, 1, 0, 1, 1, 0)
	wantIslands(t, n, without(n, 0), 0, 1, 2, 1, 1, 2)
	wantIslands(t, n, without(n, 1), 0, 1, 0, 1, 1, 0)
	wantIslands(t, n, without(n, 1, 2), 0, 1, 0, 2, 2, 0)
	wantIslands(t, n, without(n, 0, 1, 2, 3), 0, 1, 2, 3, 4, 2)
	wantIslands(t, opened(n, 0), without(n, 1, 2, 3), 0, 1, 2, 3, 4, 0)
}

// P3.1, P3.2, P3.3: of two lines between the same buses one may be out.
func TestParallelLines(t *testing.T) {
	n := network(2, []pair{{0, 1}, {1, 0}}, nil)
	wantIslands(t, n, without(n), 0, 0)
	wantIslands(t, n, without(n, 0), 0, 0)
	wantIslands(t, n, without(n, 0, 1), 0, 1)
	wantWay(t, n, without(n, 0), 0, 1, line(1))
	wantWay(t, n, without(n, 1), 1, 0, line(0))
	noWay(t, n, without(n, 0, 1), 0, 1, api.ErrSplit)
	wantBridges(t, n, without(n))
	wantBridges(t, n, without(n, 0), 1)
	wantBridges(t, n, without(n, 1), 0)
	wantBridges(t, n, without(n, 0, 1))
}

// bent networks: of each why it may not be is told in chapter 2.
func bent() []api.Net {
	bend := func(f func(n *api.Net)) api.Net {
		n := network(3, []pair{{0, 1}, {1, 2}}, []pair{{0, 2}})
		f(&n)
		return n
	}
	return []api.Net{
		{},
		{Name: "a b"},
		bend(func(n *api.Net) { n.Name = "" }),
		bend(func(n *api.Net) { n.Buses[1] = "b0" }),
		bend(func(n *api.Net) { n.Buses[2] = strings.Repeat("b", api.MaxName+1) }),
		bend(func(n *api.Net) { n.Lines[1].To = 3 }),
		bend(func(n *api.Net) { n.Lines[0].From = -1 }),
		bend(func(n *api.Net) { n.Lines[0].From = 1 }),
		bend(func(n *api.Net) { n.Lines[0].Worth = 0 }),
		bend(func(n *api.Net) { n.Ties[0].From = 3 }),
		bend(func(n *api.Net) { n.Ties[0].To, n.Ties[0].Closed = -1, false }),
		bend(func(n *api.Net) { n.Ties[0].To = 0 }),
		bend(func(n *api.Net) { n.Loads = []api.Load{{Name: "d", Bus: 3}} }),
		bend(func(n *api.Net) { n.Gens = []api.Gen{{Name: "g", Least: 2, Most: 1}} }),
		network(api.MaxBuses+1, nil, nil),
		network(2, slices.Repeat([]pair{{0, 1}}, api.MaxLines+1), nil),
		network(2, nil, slices.Repeat([]pair{{0, 1}}, api.MaxTies+1)),
		network(0, []pair{{0, 1}}, nil),
		network(0, nil, []pair{{0, 1}}),
	}
}

// P3.1, P3.2, P3.3: a network that may not be, whatever else is wrong.
func TestMayNotBe(t *testing.T) {
	for _, n := range bent() {
		if l, e := bars.Nodes(n); e != api.ErrState || len(l) != 0 {
			t.Errorf("Nodes(%+v): %v, %d", n, l, e)
		}
		refused(t, n, without(n), api.ErrState)
		refused(t, n, nil, api.ErrState)
		refused(t, n, make([]bool, len(n.Lines)+1), api.ErrState)
	}
}

// P3.1, P3.2, P3.3: what tells which lines are out must be as long as there are lines.
func TestSizes(t *testing.T) {
	for _, n := range []api.Net{{Name: "n"}, network(2, nil, []pair{{0, 1}}), network(3, []pair{{0, 1}, {1, 2}}, nil)} {
		for size := range 5 {
			if size != len(n.Lines) {
				refused(t, n, make([]bool, size), api.ErrSize)
			}
		}
		refused(t, n, make([]bool, 100000), api.ErrSize)
	}
	refused(t, network(2, []pair{{0, 1}}, nil), nil, api.ErrSize)
}

// P3.1: as many buses, lines and ties as may be.
func TestMost(t *testing.T) {
	var ring, rungs []pair
	for i := range api.MaxLines {
		ring = append(ring, pair{i % api.MaxBuses, (i + 1) % api.MaxBuses})
	}
	for i := range api.MaxTies {
		rungs = append(rungs, pair{i % api.MaxBuses, (i + 2) % api.MaxBuses})
	}
	n := network(api.MaxBuses, ring, rungs)
	wantNodes(t, n, 0, 1, 0, 1, 0, 1, 0, 1, 0, 1, 0, 1, 0, 1, 0, 1)
	wantIslands(t, n, without(n), make([]int, api.MaxBuses)...)
	wantBridges(t, n, without(n))
	wantWay(t, n, without(n), 0, 5, line(0), tie(1), tie(3))
	wantWay(t, n, without(n, 0, 16, 1, 17), 0, 5, tie(0), line(2), tie(3))
}

// P3.1: nodes and islands of drawn networks, held against names that are laid over each other.
func TestDrawnGroups(t *testing.T) {
	d := rand.New(rand.NewPCG(3, 1))
	for range 500 {
		n, out := drawn(d, api.MaxBuses, 20, 8)
		l := steps(n, out)
		wantIslands(t, n, out, merged(len(n.Buses), l)...)
		ties := slices.DeleteFunc(l, func(s step) bool { return !s.hop.Tie })
		wantNodes(t, n, merged(len(n.Buses), ties)...)
	}
}

// P3.1, what comes of it: buses are of one node just if a way over ties alone joins them.
func TestNodesByWays(t *testing.T) {
	d := rand.New(rand.NewPCG(3, 2))
	for range 200 {
		n, out := drawn(d, 8, 6, 8)
		for i := range out {
			out[i] = true
		}
		l, _ := bars.Nodes(n)
		for a := range l {
			for b := range l {
				_, e := bars.Way(n, out, a, b)
				if (e == api.OK) != (l[a] == l[b]) || e != api.OK && e != api.ErrSplit {
					t.Errorf("%+v: nodes %v, way from %d to %d: %d", n, l, a, b, e)
				}
			}
		}
	}
}

// P3.1, what comes of it: to close a tie makes one node of two, or changes nothing.
func TestTieClosed(t *testing.T) {
	d := rand.New(rand.NewPCG(3, 3))
	for range 200 {
		n, _ := drawn(d, 8, 6, 8)
		for i, k := range n.Ties {
			before, _ := bars.Nodes(opened(n, i))
			m := opened(n)
			m.Ties[i].Closed = true
			after, _ := bars.Nodes(m)
			if before[k.From] == before[k.To] {
				if !slices.Equal(before, after) {
					t.Errorf("%+v: tie %d: %v, then %v", n, i, before, after)
				}
				continue
			}
			if slices.Max(after) != slices.Max(before)-1 || after[k.From] != after[k.To] {
				t.Errorf("%+v: tie %d: %v, then %v", n, i, before, after)
			}
		}
	}
}
