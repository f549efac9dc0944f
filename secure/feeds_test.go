package secure_test

import (
	"math/rand/v2"
	"slices"
	"testing"

	"gridworks/api"
	"gridworks/secure"
)

// P6.1: of each bus what its generators generate less what its loads draw.
func TestFeeds(t *testing.T) {
	n := with(triangle(10, 10, 10), []gen{{0, 0, 20}}, []load{{2, 5}})
	wantFeeds(t, n, []int{5}, 5, 0, -5)
	wantFeeds(t, n, []int{0}, 0, 0, -5)
	wantFeeds(t, n, []int{20}, 20, 0, -5)
	n = with(triangle(10, 10, 10), []gen{{0, 1, 20}, {1, 0, 9}, {0, 3, 30}}, []load{{2, 5}, {0, 7}, {2, 11}, {0, 100}})
	wantFeeds(t, n, []int{2, 4, 8}, 2+8-7-100, 4, -5-11)
	wantFeeds(t, n, []int{0, 9, 0}, -107, 9, -16)
}

// P6.1: a generator generates 0, or from Least to Most, both of these too.
func TestFeedsEdges(t *testing.T) {
	n := with(network(1, nil, nil), []gen{{0, 5, 8}, {0, 3, 3}, {0, 0, 0}}, nil)
	for _, a := range []int{0, 5, 6, 7, 8} {
		for _, b := range []int{0, 3} {
			wantFeeds(t, n, []int{a, b, 0}, a+b)
		}
	}
}

// P6.1: buses are told one by one, be they of one node, of one island or not; what an island generates need not be what it draws.
func TestFeedsOfBuses(t *testing.T) {
	n := with(network(4, []wire{{0, 1, 1, 1}}, []wire{{2, 3, 0, 0}}), []gen{{2, 0, 9}, {0, 0, 9}}, []load{{3, 4}, {1, 6}})
	wantFeeds(t, n, []int{9, 1}, 1, -6, 9, -4)
}

// P6.1: a network of little.
func TestFeedsOfLittle(t *testing.T) {
	wantFeeds(t, api.Net{Name: "n"}, nil)
	wantFeeds(t, api.Net{Name: "n"}, []int{})
	wantFeeds(t, network(2, nil, nil), nil, 0, 0)
	wantFeeds(t, with(network(2, nil, nil), nil, []load{{1, 3}}), []int{}, 0, -3)
}

// P6.1: as many generators and loads as may be, of the greatest power.
func TestFeedsOfMost(t *testing.T) {
	n := network(api.MaxBuses, nil, nil)
	n = with(n, slices.Repeat([]gen{{3, 0, api.MaxPower}}, api.MaxGens), slices.Repeat([]load{{5, api.MaxPower}}, api.MaxLoads))
	want := make([]int, api.MaxBuses)
	want[3], want[5] = api.MaxGens*api.MaxPower, -api.MaxLoads*api.MaxPower
	wantFeeds(t, n, slices.Repeat([]int{api.MaxPower}, api.MaxGens), want...)
}

// P6.1: what all buses feed in together is what all generators generate less what all loads draw.
func TestDrawnFeeds(t *testing.T) {
	d := rand.New(rand.NewPCG(6, 1))
	for range 200 {
		n, _, plan := drawn(t, d, api.MaxBuses, 5, 5, api.MaxGens)
		for i := range n.Loads {
			n.Loads[i].Power = d.IntN(300)
		}
		want := make([]int, len(n.Buses))
		for bus := range want {
			for i, g := range n.Gens {
				if g.Bus == bus {
					want[bus] += plan[i]
				}
			}
			for _, l := range n.Loads {
				if l.Bus == bus {
					want[bus] -= l.Power
				}
			}
		}
		wantFeeds(t, n, plan, want...)
	}
}

// P6.1: what is answered is new memory, and what is handed in stays as it is, its spare room too.
func TestFeedsOwnMemory(t *testing.T) {
	n := with(triangle(10, 10, 10), []gen{{0, 0, 20}}, []load{{2, 5}})
	plan := append(make([]int, 0, 8), 5)
	a, _ := secure.Feeds(n, plan)
	a = a[:cap(a)]
	for i := range a {
		a[i] = 99
	}
	wantFeeds(t, n, plan, 5, 0, -5)
	if !slices.Equal(plan[:8], []int{5, 0, 0, 0, 0, 0, 0, 0}) || n.Gens[0].Most != 20 || n.Loads[0].Power != 5 {
		t.Error(n, plan[:8])
	}
}
