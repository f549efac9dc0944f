package flow_test

import (
	"math/big"
	"math/rand/v2"
	"slices"
	"strconv"
	"testing"

	"gridworks/api"
	"gridworks/bars"
	"gridworks/flow"
)

// wire: a line's ends, and its Worth; of a tie the Worth says nothing.
type wire struct{ from, to, worth int }

// network of so many buses, with these lines and closed ties.
func network(buses int, lines, ties []wire) api.Net {
	n := api.Net{Name: "n"}
	for i := range buses {
		n.Buses = append(n.Buses, "b"+strconv.Itoa(i))
	}
	for i, w := range lines {
		n.Lines = append(n.Lines, api.Line{Name: "l" + strconv.Itoa(i), From: w.from, To: w.to, Worth: w.worth, Limit: 10 * i})
	}
	for i, w := range ties {
		n.Ties = append(n.Ties, api.Tie{Name: "t" + strconv.Itoa(i), From: w.from, To: w.to, Closed: true})
	}
	return n
}

// triangle: the chapter's.
func triangle() api.Net { return network(3, []wire{{0, 1, 1}, {1, 2, 1}, {0, 2, 2}}, nil) }

// without: which lines are out, told by their places.
func without(n api.Net, lines ...int) []bool {
	out := make([]bool, len(n.Lines))
	for _, i := range lines {
		out[i] = true
	}
	return out
}

// noughts: nothing is fed.
func noughts(n api.Net) []string { return slices.Repeat([]string{"0"}, len(n.Buses)) }

// through: one is fed at a bus and drawn at another; if both are the same: nothing.
func through(n api.Net, from, to int) []string {
	l := noughts(n)
	if from != to {
		l[from], l[to] = "1", "-1"
	}
	return l
}

func wantState(t *testing.T, n api.Net, out []bool, feed, angles, flows []string) {
	t.Helper()
	s, e := flow.Solve(n, out, feed)
	if e != api.OK || !slices.Equal(s.Angles, angles) || !slices.Equal(s.Flows, flows) {
		t.Errorf("Solve(%+v, %v, %q): %q, %q, %d; %q and %q are wanted", n, out, feed, s.Angles, s.Flows, e, angles, flows)
	}
}

func wantTrees(t *testing.T, n api.Net, out []bool, want string) {
	t.Helper()
	if w, e := flow.Trees(n, out); e != api.OK || w != want {
		t.Errorf("Trees(%+v, %v): %q, %d; %q is wanted", n, out, w, e, want)
	}
}

// unsolved: whether Solve refuses like this, with nothing beside it.
func unsolved(t *testing.T, n api.Net, out []bool, feed []string, want api.Errno) {
	t.Helper()
	if s, e := flow.Solve(n, out, feed); e != want || len(s.Angles) != 0 || len(s.Flows) != 0 {
		t.Errorf("Solve(%+v, %v, %q): %+v, %d; %d is wanted", n, out, feed, s, e, want)
	}
}

// uncounted: whether Trees refuses like this, with nothing beside it.
func uncounted(t *testing.T, n api.Net, out []bool, want api.Errno) {
	t.Helper()
	if w, e := flow.Trees(n, out); e != want || w != "" {
		t.Errorf("Trees(%+v, %v): %q, %d; %d is wanted", n, out, w, e, want)
	}
}

// solved: the state of feeds that are fit for it.
func solved(t *testing.T, n api.Net, out []bool, feed []string) api.State {
	t.Helper()
	s, e := flow.Solve(n, out, feed)
	if e != api.OK || len(s.Angles) != len(n.Buses) || len(s.Flows) != len(n.Lines) {
		t.Fatalf("Solve(%+v, %v, %q): %+v, %d", n, out, feed, s, e)
	}
	return s
}

// counted: Trees, of what is fit for it.
func counted(t *testing.T, n api.Net, out []bool) *big.Rat {
	t.Helper()
	w, e := flow.Trees(n, out)
	if e != api.OK {
		t.Fatalf("Trees(%+v, %v): %q, %d", n, out, w, e)
	}
	return rat(t, w)
}

// rat: a number, which must be in form.
func rat(t *testing.T, s string) *big.Rat {
	t.Helper()
	x, ok := new(big.Rat).SetString(s)
	if !ok || x.RatString() != s {
		t.Fatalf("%q is not in form", s)
	}
	return x
}

func rats(t *testing.T, l []string) []*big.Rat {
	t.Helper()
	var m []*big.Rat
	for _, s := range l {
		m = append(m, rat(t, s))
	}
	return m
}

// each: what is made of the numbers of two lists, place by place.
func each(t *testing.T, a, b []string, op func(z, x, y *big.Rat) *big.Rat) []string {
	t.Helper()
	l := make([]string, len(a))
	for i := range l {
		l[i] = op(new(big.Rat), rat(t, a[i]), rat(t, b[i])).RatString()
	}
	return l
}

// drawn: a network of at most so many buses, lines and ties, and which lines are out.
func drawn(d *rand.Rand, buses, lines, ties, worth int) (api.Net, []bool) {
	b := 2 + d.IntN(buses-1)
	wires := func(most int) []wire {
		l := make([]wire, d.IntN(most+1))
		for i := range l {
			x := d.IntN(b)
			l[i] = wire{x, (x + 1 + d.IntN(b-1)) % b, 1 + d.IntN(worth)}
		}
		return l
	}
	n := network(b, wires(lines), wires(ties))
	for i := range n.Ties {
		n.Ties[i].Closed = d.IntN(2) == 0
	}
	out := make([]bool, len(n.Lines))
	for i := range out {
		out[i] = d.IntN(6) == 0
	}
	return n, out
}

// drawnFeeds: fractions (over at most under) that are 0 together in each island.
func drawnFeeds(t *testing.T, d *rand.Rand, n api.Net, out []bool, under int) []string {
	t.Helper()
	islands, e := bars.Islands(n, out)
	if e != api.OK {
		t.Fatal(n, out, e)
	}
	feed := make([]string, len(n.Buses))
	left := map[int]*big.Rat{}
	for i, k := range islands {
		if left[k] == nil {
			left[k] = new(big.Rat)
		}
		x := big.NewRat(int64(d.IntN(2001)-1000), int64(1+d.IntN(under)))
		if !slices.Contains(islands[i+1:], k) { // the island's last bus takes what is left
			x.Neg(left[k])
		}
		left[k].Add(left[k], x)
		feed[i] = x.RatString()
	}
	return feed
}
