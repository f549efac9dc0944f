package flow_test

import (
	"slices"
	"strings"
	"testing"

	"gridworks/api"
)

// bent networks: of each why it may not be is told in chapter 2.
func bent() []api.Net {
	bend := func(f func(n *api.Net)) api.Net {
		n := network(3, []wire{{0, 1, 1}, {1, 2, 1}}, []wire{{0, 2, 0}})
		f(&n)
		return n
	}
	return []api.Net{
		{},
		bend(func(n *api.Net) { n.Name = "a b" }),
		bend(func(n *api.Net) { n.Buses[1] = "b0" }),
		bend(func(n *api.Net) { n.Buses[2] = strings.Repeat("b", api.MaxName+1) }),
		bend(func(n *api.Net) { n.Lines[1].To = 3 }),
		bend(func(n *api.Net) { n.Lines[0].From = -1 }),
		bend(func(n *api.Net) { n.Lines[0].To = 0 }),
		bend(func(n *api.Net) { n.Lines[0].Worth = 0 }),
		bend(func(n *api.Net) { n.Lines[0].Worth = -1 }),
		bend(func(n *api.Net) { n.Lines[0].Worth = api.MaxWorth + 1 }),
		bend(func(n *api.Net) { n.Lines[0].Limit = -1 }),
		bend(func(n *api.Net) { n.Ties[0].From = 3 }),
		bend(func(n *api.Net) { n.Ties[0].To, n.Ties[0].Closed = -1, false }),
		bend(func(n *api.Net) { n.Loads = []api.Load{{Name: "d", Bus: 3}} }),
		bend(func(n *api.Net) { n.Gens = []api.Gen{{Name: "g", Least: 2, Most: 1}} }),
		network(api.MaxBuses+1, nil, nil),
		network(2, slices.Repeat([]wire{{0, 1, 1}}, api.MaxLines+1), nil),
		network(0, []wire{{0, 1, 1}}, nil),
	}
}

// P4.1, P4.2: a network that may not be, whatever else is wrong.
func TestMayNotBe(t *testing.T) {
	for _, n := range bent() {
		for _, out := range [][]bool{without(n), nil, make([]bool, len(n.Lines)+1)} {
			unsolved(t, n, out, noughts(n), api.ErrState)
			unsolved(t, n, out, nil, api.ErrState)
			unsolved(t, n, out, slices.Repeat([]string{"x"}, len(n.Buses)), api.ErrState)
			unsolved(t, n, out, slices.Repeat([]string{"1"}, len(n.Buses)), api.ErrState)
			uncounted(t, n, out, api.ErrState)
		}
	}
}

// P4.1, P4.2: what tells which lines are out must be as long as there are lines, and feeds as there are buses; ahead of what else is wrong with these.
func TestSizes(t *testing.T) {
	for _, n := range []api.Net{{Name: "n"}, network(2, nil, []wire{{0, 1, 0}}), triangle()} {
		for size := range 6 {
			if size != len(n.Lines) {
				unsolved(t, n, make([]bool, size), noughts(n), api.ErrSize)
				unsolved(t, n, make([]bool, size), slices.Repeat([]string{"x"}, len(n.Buses)), api.ErrSize)
				uncounted(t, n, make([]bool, size), api.ErrSize)
			}
			if size != len(n.Buses) {
				unsolved(t, n, without(n), slices.Repeat([]string{"0"}, size), api.ErrSize)
				unsolved(t, n, without(n), slices.Repeat([]string{""}, size), api.ErrSize)
				unsolved(t, n, without(n), slices.Repeat([]string{"1"}, size), api.ErrSize)
			}
		}
	}
	n := triangle()
	unsolved(t, n, nil, noughts(n), api.ErrSize)
	unsolved(t, n, without(n), nil, api.ErrSize)
	long := strings.Repeat("1", api.MaxDigits+1)
	unsolved(t, n, without(n), []string{long, "0", "0"}, api.ErrSize)
	unsolved(t, n, without(n), []string{"x", "1", long}, api.ErrSize)
	unsolved(t, n, without(n), []string{"0", strings.Repeat("x", api.MaxDigits+1), "0"}, api.ErrSize)
	unsolved(t, n, without(n), []string{"0", strings.Repeat("x", 1000000), "0"}, api.ErrSize)
}

// P4.1: feeds are numbers in form, ahead of whether they are 0 together.
func TestForms(t *testing.T) {
	n := triangle()
	for _, s := range []string{
		"", "x", "-", "+1", "01", "-01", "-0", "00", "1.0", "0.5", ".5", "1.", "1/1", "0/1", "2/4", "1/02", "/2", "1/", "1/0", "0/0",
		"1/-2", "-1/-2", "--1", "1//2", "1/2/3", " 1", "1 ", "1\n", "1e3", "1E3", "1e999999999", "1/1e9", "0x10", "0b1", "1_000", "Inf", "NaN", "½", "١", "1\x00", "\xff",
	} {
		for place := range 3 {
			feed := noughts(n)
			feed[place] = s
			unsolved(t, n, without(n), feed, api.ErrForm)
			feed[(place+1)%3] = "1"
			unsolved(t, n, without(n), feed, api.ErrForm)
			unsolved(t, n, without(n, 0, 1, 2), feed, api.ErrForm)
		}
	}
}

// P4.1: an island's feeds must be 0 together, and not only all islands'.
func TestNotBalanced(t *testing.T) {
	n := triangle()
	unsolved(t, n, without(n), []string{"1", "0", "0"}, api.ErrSum)
	unsolved(t, n, without(n), []string{"0", "0", "-1/1000000"}, api.ErrSum)
	unsolved(t, n, without(n), []string{"1/3", "1/3", "-33333333333333333333/50000000000000000000"}, api.ErrSum)
	unsolved(t, n, without(n, 0, 1), []string{"1", "-1", "0"}, api.ErrSum)
	unsolved(t, n, without(n, 0, 1), []string{"0", "1", "-1"}, api.ErrSum)
	wantState(t, n, without(n, 0, 1), []string{"1", "0", "-1"}, []string{"0", "0", "-1/2"}, []string{"0", "0", "1"})
	unsolved(t, network(1, nil, nil), nil, []string{"1"}, api.ErrSum)
	n = network(4, []wire{{0, 1, 1}, {2, 3, 1}}, []wire{{1, 2, 0}})
	wantState(t, n, without(n), []string{"1", "0", "0", "-1"}, []string{"0", "-1", "-1", "-2"}, []string{"1", "1"})
	n.Ties[0].Closed = false
	unsolved(t, n, without(n), []string{"1", "0", "0", "-1"}, api.ErrSum)
}

// P4.1: however long the sums of feeds get.
func TestLongSums(t *testing.T) {
	var chain []wire
	for i := range api.MaxBuses - 1 {
		chain = append(chain, wire{i, i + 1, 1})
	}
	n := network(api.MaxBuses, chain, nil)
	feed := append(longFeeds(2 * api.MaxBuses)[:api.MaxBuses-1], "1")
	unsolved(t, n, without(n), feed, api.ErrSum)
	holds(t, n, without(n), longFeeds(api.MaxBuses), solved(t, n, without(n), longFeeds(api.MaxBuses)))
}
