package bars_test

import (
	"math/rand/v2"
	"slices"
	"testing"

	"gridworks/api"
	"gridworks/bars"
)

// P3.3: lines in service that split their island, rising.
func TestBridges(t *testing.T) {
	wantBridges(t, api.Net{Name: "n"}, nil)
	wantBridges(t, network(3, nil, nil), nil)
	n := network(2, []pair{{1, 0}}, nil)
	wantBridges(t, n, without(n), 0)
	wantBridges(t, n, without(n, 0))
	n = network(7, []pair{{5, 4}, {0, 1}, {1, 2}, {2, 0}, {3, 2}, {3, 4}}, nil)
	wantBridges(t, n, without(n), 0, 4, 5)
	wantBridges(t, n, without(n, 1), 0, 2, 3, 4, 5)
	wantBridges(t, n, without(n, 4), 0, 5)
	wantBridges(t, n, without(n, 0, 1, 4, 5), 2, 3)
}

// P3.3: a closed tie joins what a line joins; an open one does not; and a tie is no bridge itself.
func TestBridgesAndTies(t *testing.T) {
	n := network(2, []pair{{0, 1}}, []pair{{1, 0}})
	wantBridges(t, n, without(n))
	wantBridges(t, opened(n, 0), without(n), 0)
	wantBridges(t, n, without(n, 0))
	n = network(4, []pair{{0, 1}, {2, 3}}, []pair{{1, 2}, {3, 0}})
	wantBridges(t, n, without(n))
	wantBridges(t, opened(n, 0), without(n), 0, 1)
	wantBridges(t, opened(n, 1), without(n), 0, 1)
	wantBridges(t, n, without(n, 1), 0)
	n = network(3, nil, []pair{{0, 1}, {1, 2}})
	wantBridges(t, n, nil)
	// Both ends of a line are one node: without it all stays joined.
	n = network(4, []pair{{0, 2}, {2, 3}}, []pair{{0, 1}, {1, 2}})
	wantBridges(t, n, without(n), 1)
}

// P3.3, what comes of it: without a bridge its island is two, without another line it stays one.
func TestDrawnBridges(t *testing.T) {
	d := rand.New(rand.NewPCG(3, 6))
	some := 0
	for range 500 {
		n, out := drawn(d, api.MaxBuses, 22, 6)
		var want []int
		before := slices.Max(merged(len(n.Buses), steps(n, out)))
		for i := range out {
			less := slices.Clone(out)
			less[i] = true
			after := slices.Max(merged(len(n.Buses), steps(n, less)))
			if after > before {
				want = append(want, i)
			}
			l, _ := bars.Islands(n, less)
			if slices.Max(l) != after || after > before+1 {
				t.Errorf("Islands(%+v, %v): %v", n, less, l)
			}
		}
		if len(want) > 0 && len(want) < len(out) {
			some++
		}
		wantBridges(t, n, out, want...)
	}
	if some < 200 {
		t.Error("too few networks with some bridges:", some)
	}
}
