package secure_test

import (
	"math"
	"slices"
	"strings"
	"testing"

	"gridworks/api"
)

// bent networks: of each why it may not be is told in chapter 2.
func bent() []api.Net {
	bend := func(f func(n *api.Net)) api.Net {
		n := with(network(3, []wire{{0, 1, 1, 9}, {1, 2, 1, 9}}, []wire{{0, 2, 0, 0}}), []gen{{0, 2, 9}}, []load{{2, 5}})
		f(&n)
		return n
	}
	return []api.Net{
		{},
		bend(func(n *api.Net) { n.Name = "a b" }),
		bend(func(n *api.Net) { n.Buses[1] = "b0" }),
		bend(func(n *api.Net) { n.Buses[2] = strings.Repeat("b", api.MaxName+1) }),
		bend(func(n *api.Net) { n.Lines[1].To = 3 }),
		bend(func(n *api.Net) { n.Lines[0].To = 0 }),
		bend(func(n *api.Net) { n.Lines[0].Worth = 0 }),
		bend(func(n *api.Net) { n.Lines[0].Limit = -1 }),
		bend(func(n *api.Net) { n.Lines[0].Limit = api.MaxPower + 1 }),
		bend(func(n *api.Net) { n.Ties[0].From = 3 }),
		bend(func(n *api.Net) { n.Gens[0].Bus = 3 }),
		bend(func(n *api.Net) { n.Gens[0].Bus = -1 }),
		bend(func(n *api.Net) { n.Gens[0].Least = -1 }),
		bend(func(n *api.Net) { n.Gens[0].Least = 10 }),
		bend(func(n *api.Net) { n.Gens[0].Most = api.MaxPower + 1 }),
		bend(func(n *api.Net) { n.Gens[0].Cost = -1 }),
		bend(func(n *api.Net) { n.Gens[0].Name = "d0" }),
		bend(func(n *api.Net) { n.Loads[0].Bus = 3 }),
		bend(func(n *api.Net) { n.Loads[0].Bus = math.MinInt }),
		bend(func(n *api.Net) { n.Loads[0].Power = -1 }),
		bend(func(n *api.Net) { n.Loads[0].Power = math.MaxInt }),
		network(api.MaxBuses+1, nil, nil),
		with(network(1, nil, nil), slices.Repeat([]gen{{0, 0, 1}}, api.MaxGens+1), nil),
		with(network(1, nil, nil), nil, slices.Repeat([]load{{0, 1}}, api.MaxLoads+1)),
		network(2, slices.Repeat([]wire{{0, 1, 1, 1}}, api.MaxLines+1), nil),
		with(network(0, nil, nil), []gen{{0, 0, 1}}, nil),
	}
}

// P6.1, P6.2: a network that may not be, whatever else is wrong.
func TestMayNotBe(t *testing.T) {
	for _, n := range bent() {
		for _, plan := range [][]int{make([]int, len(n.Gens)), nil, {5}, {5, 5}, slices.Repeat([]int{-1}, len(n.Gens))} {
			unfed(t, n, plan, api.ErrState)
			for _, out := range [][]bool{lacking(n), nil, make([]bool, len(n.Lines)+1)} {
				unchecked(t, n, out, plan, api.ErrState)
			}
		}
	}
}

// P6.1, P6.2: a plan tells of as many generators as there are, and `out` of as many lines; ahead of what the plan tells.
func TestSizes(t *testing.T) {
	gens, loads := []gen{{0, 2, 9}, {1, 0, 9}}, []load{{2, 5}}
	for _, n := range []api.Net{{Name: "n"}, network(3, nil, []wire{{0, 1, 0, 0}}), with(triangle(9, 9, 9), gens, loads)} {
		for size := range 6 {
			for _, power := range []int{0, 5, 1, -1, math.MaxInt} {
				plan := slices.Repeat([]int{power}, size)
				if size != len(n.Gens) {
					unfed(t, n, plan, api.ErrSize)
					unchecked(t, n, lacking(n), plan, api.ErrSize)
				}
				for lines := range 6 {
					if lines != len(n.Lines) {
						unchecked(t, n, make([]bool, lines), plan, api.ErrSize)
						unchecked(t, n, slices.Repeat([]bool{true}, lines), plan, api.ErrSize)
					}
				}
			}
		}
	}
	unfed(t, with(triangle(9, 9, 9), gens, loads), nil, api.ErrSize)
	unchecked(t, with(triangle(9, 9, 9), gens, loads), nil, []int{5, 0}, api.ErrSize)
	unchecked(t, with(triangle(9, 9, 9), gens, loads), make([]bool, 3), nil, api.ErrSize)
}

// P6.1, P6.2: a generator generates neither 0 nor from Least to Most; ahead of what its island draws.
func TestRanges(t *testing.T) {
	n := with(triangle(9, 9, 9), []gen{{0, 3, 7}, {1, 0, 7}, {2, 5, 5}}, []load{{2, 5}})
	for place, wrong := range [][]int{
		{1, 2, 8, 9, -1, -3, -7, 1 << 32, 1<<32 + 5, math.MaxInt, math.MinInt},
		{-1, 8, math.MaxInt, math.MinInt},
		{1, 4, 6, -5, math.MaxInt, math.MinInt},
	} {
		for _, power := range wrong {
			for _, rest := range [][]int{{0, 0, 0}, {3, 0, 5}, {5, 0, 0}, {math.MaxInt, math.MaxInt, math.MaxInt}} {
				plan := slices.Clone(rest)
				plan[place] = power
				unfed(t, n, plan, api.ErrRange)
				unchecked(t, n, lacking(n), plan, api.ErrRange)
				unchecked(t, n, lacking(n, 0, 1, 2), plan, api.ErrRange)
			}
		}
	}
	zero := with(network(1, nil, nil), []gen{{0, 0, 0}}, nil)
	unfed(t, zero, []int{1}, api.ErrRange)
	unfed(t, zero, []int{-1}, api.ErrRange)
	wantBreaches(t, zero, nil, []int{0})
}

// P6.2: an island does not generate what it draws, be all together as much as is drawn or not.
func TestSums(t *testing.T) {
	n := with(triangle(9, 9, 9), []gen{{0, 0, 9}, {1, 0, 9}}, []load{{2, 5}})
	for _, plan := range [][]int{{0, 0}, {4, 0}, {6, 0}, {2, 2}, {3, 3}, {0, 9}} {
		unchecked(t, n, lacking(n), plan, api.ErrSum)
	}
	unchecked(t, n, lacking(n, 1, 2), []int{5, 0}, api.ErrSum)
	unchecked(t, n, lacking(n, 0, 2), []int{5, 0}, api.ErrSum)
	unchecked(t, n, lacking(n, 0, 2), []int{2, 3}, api.ErrSum)
	wantBreaches(t, n, lacking(n, 0, 2), []int{0, 5}, split(1), lacks(1, "5"))
	n = with(network(3, nil, []wire{{0, 1, 0, 0}}), []gen{{0, 0, 9}, {2, 0, 9}}, []load{{1, 5}, {2, 1}})
	wantBreaches(t, n, nil, []int{5, 1}, lacks(0, "5"), lacks(1, "1"))
	unchecked(t, n, nil, []int{6, 0}, api.ErrSum)
	unchecked(t, n, nil, []int{1, 5}, api.ErrSum)
	n.Ties[0].Closed = false
	unchecked(t, n, nil, []int{5, 1}, api.ErrSum)
}
