package bars_test

import (
	"math"
	"math/rand/v2"
	"slices"
	"testing"

	"gridworks/api"
	"gridworks/bars"
)

// P3.2: the shortest way, over lines in service and closed ties.
func TestWay(t *testing.T) {
	n := network(5, []pair{{0, 1}, {2, 1}, {2, 3}, {0, 3}}, []pair{{3, 4}, {4, 0}})
	wantWay(t, n, without(n), 0, 1, line(0))
	wantWay(t, n, without(n), 1, 0, line(0))
	wantWay(t, n, without(n), 0, 3, line(3))
	wantWay(t, n, without(n, 3), 0, 3, tie(1), tie(0))
	wantWay(t, n, without(n, 3), 3, 0, tie(0), tie(1))
	wantWay(t, opened(n, 0), without(n, 3), 0, 3, line(0), line(1), line(2))
	wantWay(t, opened(n, 0), without(n, 3), 3, 0, line(2), line(1), line(0))
	wantWay(t, opened(n, 1), without(n), 0, 4, line(3), tie(0))
	wantWay(t, opened(n, 1), without(n, 3), 4, 0, tie(0), line(2), line(1), line(0))
	noWay(t, opened(n, 1), without(n, 3, 1), 0, 4, api.ErrSplit)
	noWay(t, opened(n, 0, 1), without(n), 4, 0, api.ErrSplit)
	noWay(t, network(2, nil, nil), nil, 0, 1, api.ErrSplit)
}

// P3.2: from a bus to itself there is no hop, joined or not.
func TestNoHop(t *testing.T) {
	n := network(3, []pair{{0, 1}}, []pair{{0, 1}})
	for bus := range 3 {
		wantWay(t, n, without(n), bus, bus)
		wantWay(t, opened(n, 0), without(n, 0), bus, bus)
	}
	wantWay(t, network(1, nil, nil), nil, 0, 0)
}

// P3.2: of several elements between two buses a line goes first, then the first of its kind.
func TestFirstElement(t *testing.T) {
	n := network(2, []pair{{1, 0}, {0, 1}, {0, 1}}, []pair{{1, 0}, {0, 1}})
	wantWay(t, n, without(n), 0, 1, line(0))
	wantWay(t, n, without(n), 1, 0, line(0))
	wantWay(t, n, without(n, 0), 0, 1, line(1))
	wantWay(t, n, without(n, 0, 1), 1, 0, line(2))
	wantWay(t, n, without(n, 0, 1, 2), 0, 1, tie(0))
	wantWay(t, opened(n, 0), without(n, 0, 1, 2), 1, 0, tie(1))
	noWay(t, opened(n, 0, 1), without(n, 0, 1, 2), 1, 0, api.ErrSplit)
}

// P3.2: of several shortest ways it is at each bus, from a on, that a line goes first, then the first of its kind.
func TestFirstWay(t *testing.T) {
	// Over 2 the first line is taken at the end, over 1 at the beginning: it hangs on where one begins.
	n := network(4, []pair{{2, 3}, {0, 1}, {0, 2}, {1, 3}}, nil)
	wantWay(t, n, without(n), 0, 3, line(1), line(3))
	wantWay(t, n, without(n), 3, 0, line(0), line(2))
	// The first line of all leads from 0, but on no shortest way.
	n = network(5, []pair{{0, 4}, {4, 1}, {1, 3}}, []pair{{0, 2}, {2, 3}})
	wantWay(t, n, without(n), 0, 3, tie(0), tie(1))
	wantWay(t, opened(n, 1), without(n), 0, 3, line(0), line(1), line(2))
	// A line goes ahead of a tie at once, though ties alone follow.
	n = network(4, []pair{{0, 2}, {1, 3}}, []pair{{0, 1}, {2, 3}})
	wantWay(t, n, without(n), 0, 3, line(0), tie(1))
	wantWay(t, n, without(n), 3, 0, line(1), tie(0))
	wantWay(t, n, without(n, 0), 0, 3, tie(0), line(1))
	// Ties too go by their places, not by where they lead to.
	n = network(4, nil, []pair{{2, 0}, {1, 0}, {3, 1}, {3, 2}})
	wantWay(t, n, nil, 0, 3, tie(0), tie(3))
	wantWay(t, n, nil, 3, 0, tie(2), tie(1))
}

// P3.2: a or b is no bus.
func TestNoBus(t *testing.T) {
	n := network(3, []pair{{0, 1}}, nil)
	for _, bus := range []int{-1, 3, 4, 100, math.MinInt, math.MaxInt, math.MinInt32} {
		noWay(t, n, without(n), bus, 0, api.ErrRange)
		noWay(t, n, without(n), 0, bus, api.ErrRange)
		noWay(t, n, without(n), bus, bus, api.ErrRange)
		noWay(t, n, without(n, 0), 2, bus, api.ErrRange)
	}
	noWay(t, api.Net{Name: "n"}, nil, 0, 0, api.ErrRange)
	noWay(t, n, without(n), 0, 2, api.ErrSplit)
	noWay(t, n, without(n), 2, 0, api.ErrSplit)
}

// P3.2: drawn networks, all ways being tried, the shorter ones first.
func TestDrawnWays(t *testing.T) {
	d := rand.New(rand.NewPCG(3, 4))
	long, split := 0, 0
	for range 400 {
		n, out := drawn(d, 6, 7, 4)
		l := steps(n, out)
		for a := range n.Buses {
			for b := range n.Buses {
				var want []api.Hop
				found := false
				for length := 0; length < len(n.Buses) && !found; length++ {
					want, found = tried(l, a, b, length)
				}
				if !found {
					split++
					noWay(t, n, out, a, b, api.ErrSplit)
					continue
				}
				if len(want) > 2 {
					long++
				}
				wantWay(t, n, out, a, b, want...)
			}
		}
	}
	if long < 200 || split < 200 {
		t.Error("too few long ways, or too few splits:", long, split)
	}
}

// P3.2: the same way back is as long; and buses are of one island just if there is a way.
func TestWaysAndIslands(t *testing.T) {
	d := rand.New(rand.NewPCG(3, 5))
	for range 100 {
		n, out := drawn(d, api.MaxBuses, 20, 6)
		l, _ := bars.Islands(n, out)
		for a := range l {
			for b := range l {
				w, e := bars.Way(n, out, a, b)
				v, f := bars.Way(n, out, b, a)
				if e != f || len(w) != len(v) || (e == api.OK) != (l[a] == l[b]) {
					t.Errorf("%+v, %v: %v, %d from %d to %d; %v, %d back; islands %v", n, out, w, e, a, b, v, f, l)
				}
			}
		}
	}
}

// What holds everywhere: what is handed in stays as it is, spare room too, and each answer is memory of its own.
func TestOwnMemory(t *testing.T) {
	n := network(4, []pair{{0, 1}, {1, 2}, {0, 2}}, []pair{{2, 3}, {3, 0}})
	room := []bool{false, false, true, true, false, true}
	out := room[:3]
	n.Lines = append(n.Lines, api.Line{Name: "spare"})[:3]
	n.Ties = append(n.Ties, api.Tie{Name: "spare"})[:2]
	lines, ties := slices.Clone(n.Lines[:4]), slices.Clone(n.Ties[:3])
	for range 2 {
		spoil(bars.Nodes(n))
		spoil(bars.Islands(n, out))
		spoil(bars.Bridges(n, out))
		spoil(bars.Way(n, out, 1, 3))
	}
	wantNodes(t, n, 0, 1, 0, 0)
	wantIslands(t, n, out, 0, 0, 0, 0)
	wantBridges(t, n, out)
	wantWay(t, n, out, 1, 3, line(0), tie(1))
	if !slices.Equal(room, []bool{false, false, true, true, false, true}) || !slices.Equal(n.Lines[:4], lines) || !slices.Equal(n.Ties[:3], ties) {
		t.Errorf("changed: %v, %v, %v", room, n.Lines[:4], n.Ties[:3])
	}
}

// spoil all of an answer, its spare room too.
func spoil[T any](l []T, _ api.Errno) {
	clear(l[:cap(l)])
}
