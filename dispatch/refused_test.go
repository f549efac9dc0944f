package dispatch_test

import (
	"slices"
	"strings"
	"testing"

	"gridworks/api"
)

// bent networks: of each why it may not be is told in chapter 2.
func bent() []api.Net {
	bend := func(f func(n *api.Net)) api.Net {
		n := with(network(3, []wire{{0, 1, 1, 9}, {1, 2, 1, 9}}, []wire{{0, 2, 0, 0}}), []gen{{0, 0, 9, 1}}, []load{{1, 3}})
		f(&n)
		return n
	}
	return []api.Net{
		{},
		bend(func(n *api.Net) { n.Name = "a b" }),
		bend(func(n *api.Net) { n.Buses[1] = "b0" }),
		bend(func(n *api.Net) { n.Buses[2] = strings.Repeat("b", api.MaxName+1) }),
		bend(func(n *api.Net) { n.Lines[1].To = 3 }),
		bend(func(n *api.Net) { n.Lines[0].From = -1 }),
		bend(func(n *api.Net) { n.Lines[0].To = 0 }),
		bend(func(n *api.Net) { n.Lines[0].Worth = 0 }),
		bend(func(n *api.Net) { n.Lines[0].Worth = api.MaxWorth + 1 }),
		bend(func(n *api.Net) { n.Lines[0].Limit = -1 }),
		bend(func(n *api.Net) { n.Lines[0].Limit = api.MaxPower + 1 }),
		bend(func(n *api.Net) { n.Ties[0].From = 3 }),
		bend(func(n *api.Net) { n.Ties[0].To, n.Ties[0].Closed = -1, false }),
		bend(func(n *api.Net) { n.Loads[0].Bus = 3 }),
		bend(func(n *api.Net) { n.Loads[0].Power = -1 }),
		bend(func(n *api.Net) { n.Loads[0].Power = api.MaxPower + 1 }),
		bend(func(n *api.Net) { n.Gens[0].Bus = -1 }),
		bend(func(n *api.Net) { n.Gens[0].Least = 10 }),
		bend(func(n *api.Net) { n.Gens[0].Least = -1 }),
		bend(func(n *api.Net) { n.Gens[0].Most = api.MaxPower + 1 }),
		bend(func(n *api.Net) { n.Gens[0].Cost = -1 }),
		bend(func(n *api.Net) { n.Gens[0].Cost = api.MaxCost + 1 }),
		bend(func(n *api.Net) { n.Gens[0].Name = "d0" }),
		network(api.MaxBuses+1, nil, nil),
		network(2, slices.Repeat([]wire{{0, 1, 1, 1}}, api.MaxLines+1), nil),
		network(0, []wire{{0, 1, 1, 1}}, nil),
		with(network(1, nil, nil), make([]gen, api.MaxGens+1), nil),
		with(network(1, nil, nil), nil, make([]load, api.MaxLoads+1)),
	}
}

// P8.3: a network that may not be, whatever else is wrong.
func TestMayNotBe(t *testing.T) {
	for _, n := range bent() {
		for _, out := range [][]bool{lacking(n), nil, make([]bool, len(n.Lines)+1)} {
			refused(t, n, out, api.ErrState)
		}
	}
}

// P8.3: what tells which lines are out must be as long as there are lines.
func TestOutSizes(t *testing.T) {
	for _, n := range []api.Net{{Name: "n"}, network(2, nil, []wire{{0, 1, 0, 0}}), triangle(1, 2, 3), example()} {
		for size := range 6 {
			if size == len(n.Lines) {
				continue
			}
			refused(t, n, make([]bool, size), api.ErrSize)
			refused(t, n, slices.Repeat([]bool{true}, size), api.ErrSize)
		}
	}
	refused(t, example(), nil, api.ErrSize)
}
