package works_test

import (
	"math"
	"slices"
	"strings"
	"testing"

	"gridworks/api"
	"gridworks/works"
)

// bent networks: of each why it may not be is told in chapter 2.
func bent() []api.Net {
	bend := func(f func(n *api.Net)) api.Net {
		n := with(network(3, []wire{{0, 1, 1, 9}, {1, 2, 1, 9}}, []wire{{0, 2, 0, 0}}), []gen{{0, 2, 9}}, []load{{2, 5}})
		f(&n)
		return n
	}
	return []api.Net{
		{},
		bend(func(n *api.Net) { n.Name = "a b" }),
		bend(func(n *api.Net) { n.Buses[1] = "b0" }),
		bend(func(n *api.Net) { n.Buses[2] = strings.Repeat("b", api.MaxName+1) }),
		bend(func(n *api.Net) { n.Lines[1].To = 3 }),
		bend(func(n *api.Net) { n.Lines[0].To = 0 }),
		bend(func(n *api.Net) { n.Lines[0].Worth = 0 }),
		bend(func(n *api.Net) { n.Lines[0].Limit = -1 }),
		bend(func(n *api.Net) { n.Lines[0].Limit = api.MaxPower + 1 }),
		bend(func(n *api.Net) { n.Ties[0].From = 3 }),
		bend(func(n *api.Net) { n.Gens[0].Bus = 3 }),
		bend(func(n *api.Net) { n.Gens[0].Bus = math.MinInt }),
		bend(func(n *api.Net) { n.Gens[0].Least = 10 }),
		bend(func(n *api.Net) { n.Gens[0].Most = api.MaxPower + 1 }),
		bend(func(n *api.Net) { n.Gens[0].Cost = -1 }),
		bend(func(n *api.Net) { n.Gens[0].Name = "d0" }),
		bend(func(n *api.Net) { n.Loads[0].Bus = -1 }),
		bend(func(n *api.Net) { n.Loads[0].Power = -1 }),
		bend(func(n *api.Net) { n.Loads[0].Power = math.MaxInt }),
		network(api.MaxBuses+1, nil, nil),
		with(network(1, nil, nil), slices.Repeat([]gen{{0, 0, 1}}, api.MaxGens+1), nil),
		with(network(1, nil, nil), nil, slices.Repeat([]load{{0, 1}}, api.MaxLoads+1)),
		network(2, slices.Repeat([]wire{{0, 1, 1, 1}}, api.MaxLines+1), nil),
		with(network(0, nil, nil), []gen{{0, 0, 1}}, nil),
	}
}

// P16.2: no world of a network that may not be.
func TestNoBegin(t *testing.T) {
	for _, n := range bent() {
		if w, e := works.Begin(n); e != api.ErrState || !alike(w, api.World{}) {
			t.Errorf("Begin(%+v): %+v, %d", n, w, e)
		}
	}
}

// P16.2: of networks of little, and of one in which nothing is wrong.
func TestBegin(t *testing.T) {
	wantBegin(t, api.Net{Name: "n"}, "", nil, nil)
	wantBegin(t, network(3, []wire{{2, 0, 1, 0}}, nil), "0", nil, nil, dark(0), dark(1))
	wantBegin(t, network(3, nil, []wire{{2, 1, 0, 0}}), "", nil, nil, dark(0), dark(1))
	n := with(network(3, []wire{{0, 1, 3, 7}, {1, 2, 4, 7}}, []wire{{2, 0, 0, 0}}), []gen{{0, 0, 9}, {1, 2, 8}}, []load{{2, 5}, {0, 1}})
	n.Ties[0].Closed = false
	n.Gens[1].Cost, n.Name = 17, "Ærø_2"
	wantBegin(t, n, "00", []int{2, 4}, []int{5, 1})
}

// sound: a world that may be, and that settling would change.
func sound() api.World {
	n := with(network(3, []wire{{0, 1, 1, 9}, {1, 2, 1, 9}}, []wire{{0, 2, 0, 0}}), []gen{{0, 2, 9}, {1, 3, 5}, {2, 0, 4}}, []load{{2, 5}, {0, 4}})
	return api.World{Net: n, Out: flags("10"), On: flags("101"), Plan: []int{7, 0, 2}, Given: []int{5, 4}, Now: 50, Log: entries(70, event(9, -1, 8), api.Event{})}
}

// bend: the sound world, but for what is done to it.
func bend(f func(w *api.World)) api.World {
	w := sound()
	f(&w)
	return w
}

// P16.3: a world whose network may not be is refused, however its lists are.
func TestNetMayNotBe(t *testing.T) {
	for _, n := range bent() {
		noWorld(t, api.World{Net: n})
		noWorld(t, api.World{Net: n, Out: all(true, len(n.Lines)), On: all(true, len(n.Gens)), Plan: make([]int, len(n.Gens)), Given: make([]int, len(n.Loads))})
	}
}

// P16.3: lists that tell of fewer or more than there are.
func TestListsOfOtherSizes(t *testing.T) {
	aWorld(t, sound())
	for size := range 6 {
		if size != 2 {
			noWorld(t, bend(func(w *api.World) { w.Out = make([]bool, size) }))
			noWorld(t, bend(func(w *api.World) { w.Given = make([]int, size) }))
		}
		if size != 3 {
			noWorld(t, bend(func(w *api.World) { w.On = all(true, size) }))
			noWorld(t, bend(func(w *api.World) { w.Plan = make([]int, size) }))
			noWorld(t, bend(func(w *api.World) { w.On, w.Plan = make([]bool, size), make([]int, size) }))
		}
	}
	aWorld(t, api.World{Net: api.Net{Name: "n"}})
	noWorld(t, api.World{})
	noWorld(t, api.World{Net: api.Net{Name: "n"}, Out: flags("0")})
	noWorld(t, api.World{Net: api.Net{Name: "n"}, On: flags("0")})
	noWorld(t, api.World{Net: api.Net{Name: "n"}, Plan: []int{0}})
	noWorld(t, api.World{Net: api.Net{Name: "n"}, Given: []int{0}})
}

// P16.3: Plan is 0, or from Least to Most; 0 of what is off.
func TestPlans(t *testing.T) {
	for _, p := range []int{0, 2, 3, 8, 9} {
		aWorld(t, bend(func(w *api.World) { w.Plan[0] = p }))
	}
	for _, p := range []int{1, 10, -1, -2, -9, 1 << 32, math.MaxInt, math.MinInt} {
		noWorld(t, bend(func(w *api.World) { w.Plan[0] = p }))
		noWorld(t, bend(func(w *api.World) { w.On[0], w.Plan[0] = false, p }))
	}
	for _, p := range []int{2, 9} {
		noWorld(t, bend(func(w *api.World) { w.On[0], w.Plan[0] = false, p }))
	}
	for _, p := range []int{1, 3, 4, 5, 6, -3} {
		noWorld(t, bend(func(w *api.World) { w.Plan[1] = p }))
	}
	aWorld(t, bend(func(w *api.World) { w.On[1], w.Plan[1] = true, 5 }))
	aWorld(t, bend(func(w *api.World) { w.On[2], w.Plan[2] = false, 0 }))
	noWorld(t, bend(func(w *api.World) { w.Plan[2] = 5 }))
	noWorld(t, bend(func(w *api.World) { w.On[2] = false }))
}

// P16.3: Given is from 0 to what is drawn.
func TestGiven(t *testing.T) {
	for given := range 6 {
		aWorld(t, bend(func(w *api.World) { w.Given[0] = given }))
	}
	for _, given := range []int{-1, 6, 1 << 32, math.MaxInt, math.MinInt} {
		noWorld(t, bend(func(w *api.World) { w.Given[0] = given }))
	}
	noWorld(t, bend(func(w *api.World) { w.Given[1] = 5 }))
	noWorld(t, bend(func(w *api.World) { w.Given[1] = -1 }))
	noWorld(t, bend(func(w *api.World) { w.Net.Loads[1].Power = 3 }))
}

// P16.3: Now is from 0 to 1000000000.
func TestNow(t *testing.T) {
	for _, now := range []int{0, 1, 999999999, 1000000000} {
		aWorld(t, bend(func(w *api.World) { w.Now = now }))
	}
	for _, now := range []int{-1, 1000000001, math.MaxInt, math.MinInt} {
		noWorld(t, bend(func(w *api.World) { w.Now = now }))
	}
}

// P16.3: the log has at most MaxLog entries, whatever they are.
func TestLogs(t *testing.T) {
	odd := []api.Entry{{Now: math.MinInt, Event: event(math.MaxInt, -5, -6)}}
	for _, count := range []int{0, 1, 2, 99, 100} {
		aWorld(t, bend(func(w *api.World) { w.Log = slices.Repeat(odd, count) }))
		aWorld(t, bend(func(w *api.World) { w.Log = make([]api.Entry, count) }))
	}
	for _, count := range []int{101, 102, 1000, 1000000} {
		noWorld(t, bend(func(w *api.World) { w.Log = make([]api.Entry, count) }))
	}
}
