package shift_test

import (
	"math/big"
	"math/rand/v2"
	"slices"
	"strconv"
	"strings"
	"testing"

	"gridworks/api"
	"gridworks/bars"
	"gridworks/flow"
	"gridworks/shift"
)

// wire: a line's ends, and its Worth; of a tie the Worth says nothing.
type wire struct{ from, to, worth int }

// network of so many buses, with these lines and closed ties.
func network(buses int, lines, ties []wire) api.Net {
	n := api.Net{Name: "n"}
	for i := range buses {
		n.Buses = append(n.Buses, "b"+strconv.Itoa(i))
	}
	for i, w := range lines {
		n.Lines = append(n.Lines, api.Line{Name: "l" + strconv.Itoa(i), From: w.from, To: w.to, Worth: w.worth, Limit: 10 * i})
	}
	for i, w := range ties {
		n.Ties = append(n.Ties, api.Tie{Name: "t" + strconv.Itoa(i), From: w.from, To: w.to, Closed: true})
	}
	return n
}

// triangle: chapter 4's.
func triangle() api.Net { return network(3, []wire{{0, 1, 1}, {1, 2, 1}, {0, 2, 2}}, nil) }

// lacking: which lines are out, told by their places.
func lacking(n api.Net, lines ...int) []bool {
	out := make([]bool, len(n.Lines))
	for _, i := range lines {
		out[i] = true
	}
	return out
}

// words: a list that is told by one text.
func words(s string) []string { return strings.Fields(s) }

func wantShares(t *testing.T, n api.Net, out []bool, want ...string) {
	t.Helper()
	s, e := shift.Shares(n, out)
	good := e == api.OK && len(s) == len(want)
	for i := range s {
		good = good && slices.Equal(s[i], words(want[i]))
	}
	if !good {
		t.Errorf("Shares(%+v, %v): %q, %d; %q are wanted", n, out, s, e, want)
	}
}

func wantMoves(t *testing.T, n api.Net, out []bool, k int, want string) {
	t.Helper()
	if m, e := shift.Moves(n, out, k); e != api.OK || !slices.Equal(m, words(want)) {
		t.Errorf("Moves(%+v, %v, %d): %q, %d; %q are wanted", n, out, k, m, e, want)
	}
}

func wantAfter(t *testing.T, n api.Net, out []bool, flows []string, k int, want []string) {
	t.Helper()
	if a, e := shift.After(n, out, flows, k); e != api.OK || !slices.Equal(a, want) {
		t.Errorf("After(%+v, %v, %q, %d): %q, %d; %q are wanted", n, out, flows, k, a, e, want)
	}
}

// unshared: whether Shares refuses like this, with nothing beside it.
func unshared(t *testing.T, n api.Net, out []bool, want api.Errno) {
	t.Helper()
	if s, e := shift.Shares(n, out); e != want || len(s) != 0 {
		t.Errorf("Shares(%+v, %v): %q, %d; %d is wanted", n, out, s, e, want)
	}
}

// unmoved: whether Moves refuses like this, with nothing beside it.
func unmoved(t *testing.T, n api.Net, out []bool, k int, want api.Errno) {
	t.Helper()
	if m, e := shift.Moves(n, out, k); e != want || len(m) != 0 {
		t.Errorf("Moves(%+v, %v, %d): %q, %d; %d is wanted", n, out, k, m, e, want)
	}
}

// untold: whether After refuses like this, with nothing beside it.
func untold(t *testing.T, n api.Net, out []bool, flows []string, k int, want api.Errno) {
	t.Helper()
	if a, e := shift.After(n, out, flows, k); e != want || len(a) != 0 {
		t.Errorf("After(%+v, %v, %.99q, %d): %q, %d; %d is wanted", n, out, flows, k, a, e, want)
	}
}

// unmovable: whether both Moves and After refuse like this, be the flows fit, too few, too long or no numbers.
func unmovable(t *testing.T, n api.Net, out []bool, k int, want api.Errno) {
	t.Helper()
	unmoved(t, n, out, k, want)
	untold(t, n, out, nil, k, want)
	for _, s := range []string{"1", "x", strings.Repeat("1", api.MaxLong+1)} {
		untold(t, n, out, slices.Repeat([]string{s}, len(n.Lines)), k, want)
	}
}

// sharesOf what is fit for them.
func sharesOf(t *testing.T, n api.Net, out []bool) [][]string {
	t.Helper()
	s, e := shift.Shares(n, out)
	if e != api.OK || len(s) != len(n.Lines) {
		t.Fatalf("Shares(%+v, %v): %q, %d", n, out, s, e)
	}
	for _, l := range s {
		if len(l) != len(n.Buses) {
			t.Fatalf("Shares(%+v, %v): %q", n, out, s)
		}
	}
	return s
}

// flowsOf: what flows over each line, as chapter 4 tells it.
func flowsOf(t *testing.T, n api.Net, out []bool, feed []string) []string {
	t.Helper()
	s, e := flow.Solve(n, out, feed)
	if e != api.OK {
		t.Fatalf("Solve(%+v, %v, %q): %d", n, out, feed, e)
	}
	return s.Flows
}

// firsts: of each bus the first one of its island.
func firsts(t *testing.T, n api.Net, out []bool) []int {
	t.Helper()
	islands, e := bars.Islands(n, out)
	if e != api.OK {
		t.Fatalf("Islands(%+v, %v): %d", n, out, e)
	}
	l := make([]int, len(islands))
	for i, k := range islands {
		l[i] = slices.Index(islands, k)
	}
	return l
}

// movable: the lines that can go out.
func movable(t *testing.T, n api.Net, out []bool) []int {
	t.Helper()
	bridges, e := bars.Bridges(n, out)
	if e != api.OK {
		t.Fatalf("Bridges(%+v, %v): %d", n, out, e)
	}
	var l []int
	for i := range out {
		if !out[i] && !slices.Contains(bridges, i) {
			l = append(l, i)
		}
	}
	return l
}

// rat: a number, which must be in form.
func rat(t *testing.T, s string) *big.Rat {
	t.Helper()
	x, ok := new(big.Rat).SetString(s)
	if !ok || x.RatString() != s {
		t.Fatalf("%q is not in form", s)
	}
	return x
}

// plus: a, and b times c.
func plus(t *testing.T, a, b, c string) string {
	t.Helper()
	x := new(big.Rat).Mul(rat(t, b), rat(t, c))
	return x.Add(x, rat(t, a)).RatString()
}

// drawn: a network of at most so many buses, lines and ties, and which lines are out.
func drawn(d *rand.Rand, buses, lines, ties, worth int) (api.Net, []bool) {
	b := 2 + d.IntN(buses-1)
	wires := func(most int) []wire {
		l := make([]wire, d.IntN(most+1))
		for i := range l {
			x := d.IntN(b)
			l[i] = wire{x, (x + 1 + d.IntN(b-1)) % b, 1 + d.IntN(worth)}
		}
		return l
	}
	n := network(b, wires(lines), wires(ties))
	for i := range n.Ties {
		n.Ties[i].Closed = d.IntN(2) == 0
	}
	out := make([]bool, len(n.Lines))
	for i := range out {
		out[i] = d.IntN(6) == 0
	}
	return n, out
}

// drawnFeeds: fractions that are 0 together in each island.
func drawnFeeds(t *testing.T, d *rand.Rand, n api.Net, out []bool) []string {
	t.Helper()
	feed := slices.Repeat([]string{"0"}, len(n.Buses))
	for i, first := range firsts(t, n, out) {
		x := big.NewRat(int64(d.IntN(2001)-1000), int64(1+d.IntN(9)))
		feed[i] = new(big.Rat).Add(rat(t, feed[i]), x).RatString()
		feed[first] = new(big.Rat).Sub(rat(t, feed[first]), x).RatString()
	}
	return feed
}

// largest: as many buses and lines as may be, with the greatest Worths, none of which is another's, in rings.
func largest() api.Net {
	var lines []wire
	for i := range api.MaxLines {
		lines = append(lines, wire{i % api.MaxBuses, (i + 1 + i/api.MaxBuses) % api.MaxBuses, api.MaxWorth - i})
	}
	return network(api.MaxBuses, lines, nil)
}
