package flow_test

import (
	"math/big"
	"math/rand/v2"
	"slices"
	"strings"
	"testing"

	"gridworks/api"
	"gridworks/bars"
)

// P4.1: the chapter's example, with its angles.
func TestTriangle(t *testing.T) {
	n := triangle()
	wantState(t, n, without(n), []string{"5", "0", "-5"}, []string{"0", "-1", "-2"}, []string{"1", "1", "4"})
	wantState(t, n, without(n, 2), []string{"5", "0", "-5"}, []string{"0", "-5", "-10"}, []string{"5", "5", "0"})
	wantState(t, n, without(n, 0), []string{"5", "0", "-5"}, []string{"0", "-5/2", "-5/2"}, []string{"0", "0", "5"})
	wantState(t, n, without(n), []string{"1", "-1", "0"}, []string{"0", "-3/5", "-1/5"}, []string{"3/5", "-2/5", "2/5"})
	wantState(t, n, without(n), []string{"-1/2", "1/3", "1/6"}, []string{"0", "7/30", "2/15"}, []string{"-7/30", "1/10", "-4/15"})
}

// P4.1: below 0 it flows from To to From; a greater Worth asks for less of an angle.
func TestOneLine(t *testing.T) {
	for _, c := range []struct {
		line  wire
		angle string
		flow  string
	}{
		{wire{0, 1, 1}, "-6", "6"},
		{wire{1, 0, 1}, "-6", "-6"},
		{wire{0, 1, 4}, "-3/2", "6"},
		{wire{1, 0, 10000}, "-3/5000", "-6"},
	} {
		n := network(2, []wire{c.line}, nil)
		wantState(t, n, without(n), []string{"6", "-6"}, []string{"0", c.angle}, []string{c.flow})
		wantState(t, n, without(n), []string{"0", "0"}, []string{"0", "0"}, []string{"0"})
		wantState(t, n, without(n, 0), []string{"0", "0"}, []string{"0", "0"}, []string{"0"})
	}
}

// P4.1: of lines between the same buses each has its part, by its Worth.
func TestParallel(t *testing.T) {
	n := network(2, []wire{{0, 1, 1}, {1, 0, 2}, {0, 1, 3}}, nil)
	wantState(t, n, without(n), []string{"7", "-7"}, []string{"0", "-7/6"}, []string{"7/6", "-7/3", "7/2"})
	wantState(t, n, without(n, 1), []string{"7", "-7"}, []string{"0", "-7/4"}, []string{"7/4", "0", "21/4"})
	wantState(t, n, without(n, 0, 2), []string{"7", "-7"}, []string{"0", "-7/2"}, []string{"0", "-7", "0"})
}

// P4.1: buses of one node have the same angle, and feed together; an open tie joins nothing.
func TestNode(t *testing.T) {
	n := network(4, []wire{{0, 1, 2}, {2, 3, 1}, {1, 2, 5}}, []wire{{1, 2, 0}})
	wantState(t, n, without(n), []string{"3", "9", "-8", "-4"}, []string{"0", "-3/2", "-3/2", "-11/2"}, []string{"3", "4", "0"})
	n.Ties[0].Closed = false
	wantState(t, n, without(n), []string{"3", "9", "-8", "-4"}, []string{"0", "-3/2", "-39/10", "-79/10"}, []string{"3", "4", "12"})
	wantState(t, n, without(n, 2), []string{"3", "-3", "4", "-4"}, []string{"0", "-3/2", "0", "-4"}, []string{"3", "4", "0"})
	n = network(3, nil, []wire{{2, 0, 0}, {1, 2, 0}})
	wantState(t, n, nil, []string{"3", "9", "-12"}, []string{"0", "0", "0"}, nil)
}

// P4.1: the angle of an island's first bus is 0, and so is that of all buses of its node, be there others between them.
func TestFirstNode(t *testing.T) {
	n := network(4, []wire{{1, 3, 1}, {1, 2, 2}}, []wire{{3, 0, 0}})
	wantState(t, n, without(n), []string{"0", "0", "-4", "4"}, []string{"0", "-4", "-6", "0"}, []string{"-4", "4"})
	wantState(t, n, without(n, 0), []string{"5", "4", "-4", "-5"}, []string{"0", "0", "-2", "0"}, []string{"0", "4"})
}

// P4.1: each island has its own first bus.
func TestIslands(t *testing.T) {
	n := network(6, []wire{{5, 0, 1}, {4, 1, 2}, {1, 3, 4}}, nil)
	wantState(t, n, without(n), []string{"1", "2", "0", "6", "-8", "-1"}, []string{"0", "0", "0", "3/2", "-4", "-1"}, []string{"-1", "-8", "-6"})
	wantState(t, n, without(n, 1), []string{"1", "-6", "0", "6", "0", "-1"}, []string{"0", "0", "0", "3/2", "0", "-1"}, []string{"-1", "0", "-6"})
	wantState(t, n, without(n, 0, 1, 2), noughts(n), noughts(n), []string{"0", "0", "0"})
}

// P4.1: networks without lines, or without anything.
func TestNothingFlows(t *testing.T) {
	wantState(t, api.Net{Name: "n"}, nil, nil, nil, nil)
	wantState(t, api.Net{Name: "n"}, []bool{}, []string{}, nil, nil)
	wantState(t, network(1, nil, nil), nil, []string{"0"}, []string{"0"}, nil)
	wantState(t, network(2, nil, nil), nil, []string{"0", "0"}, []string{"0", "0"}, nil)
}

// P4.1: what generators and loads of the network are says nothing; feeds do.
func TestFeedsAlone(t *testing.T) {
	n := triangle()
	n.Gens = []api.Gen{{Name: "g", Bus: 1, Least: 3, Most: 9, Cost: 2}}
	n.Loads = []api.Load{{Name: "d", Bus: 0, Power: 7}}
	wantState(t, n, without(n), noughts(n), noughts(n), []string{"0", "0", "0"})
	wantState(t, n, without(n), []string{"5", "0", "-5"}, []string{"0", "-1", "-2"}, []string{"1", "1", "4"})
}

// P4.1: feeds have at most MaxDigits bytes; angles and flows as many as they need.
func TestLongFeeds(t *testing.T) {
	n := network(2, []wire{{0, 1, 7}}, nil)
	nines := strings.Repeat("9", api.MaxDigits-1)
	angle := new(big.Rat).Quo(rat(t, nines), big.NewRat(7, 1)).RatString()
	wantState(t, n, without(n), []string{"-" + nines, nines}, []string{"0", angle}, []string{"-" + nines})
	unsolved(t, n, without(n), []string{"-" + nines + "9", nines}, api.ErrSize)
	unsolved(t, n, without(n), []string{nines + "9", nines}, api.ErrSum)
	unsolved(t, n, without(n), []string{"0", nines + "99"}, api.ErrSize)
	unsolved(t, n, without(n), []string{"0", "0" + strings.Repeat("0", api.MaxDigits)}, api.ErrSize)
	unsolved(t, n, without(n), []string{"0", strings.Repeat("0", api.MaxDigits)}, api.ErrForm)
	under := "/1" + strings.Repeat("0", api.MaxDigits-4)
	wantState(t, n, without(n), []string{"-1" + under, "1" + under}, []string{"0", "1/7" + under[2:]}, []string{"-1" + under})
	unsolved(t, n, without(n), []string{"-1" + under + "0", "1" + under + "0"}, api.ErrSize)
}

// longFeeds: fractions of as many bytes as may be, all over other numbers; where they are drawn, as they are fed.
func longFeeds(buses int) []string {
	l := make([]string, buses)
	for i := range buses / 2 {
		under := big.NewInt(int64(10007 + 2*i))
		under.Exp(under, big.NewInt(14), nil)
		s := under.String()
		s = "1/" + s[:api.MaxDigits-4] + "1"
		l[i], l[buses-1-i] = "-"+s, s
	}
	return l
}

// P4.1: as many buses, lines and ties as may be, with the greatest numbers.
func TestMost(t *testing.T) {
	var lines, ties []wire
	for i := range api.MaxLines {
		lines = append(lines, wire{i % api.MaxBuses, (i + 1 + i/api.MaxBuses) % api.MaxBuses, api.MaxWorth - i})
	}
	for i := range api.MaxTies {
		ties = append(ties, wire{i % api.MaxBuses, (i + 3) % api.MaxBuses, 0})
	}
	n := network(api.MaxBuses, lines, ties)
	feed := longFeeds(api.MaxBuses)
	wantState(t, n, without(n), feed, noughts(n), slices.Repeat([]string{"0"}, api.MaxLines))
	for i := range n.Ties {
		n.Ties[i].Closed = false
	}
	s := solved(t, n, without(n), feed)
	holds(t, n, without(n), feed, s)
	if len(s.Angles[1]) < 10*api.MaxDigits {
		t.Error("an angle is short:", s.Angles[1])
	}
}

// holds: whether a state is just what feeds make; there is no other such state.
func holds(t *testing.T, n api.Net, out []bool, feed []string, s api.State) {
	t.Helper()
	nodes, _ := bars.Nodes(n)
	islands, _ := bars.Islands(n, out)
	angles, flows := rats(t, s.Angles), rats(t, s.Flows)
	left := rats(t, feed)
	for i, l := range n.Lines {
		over := new(big.Rat).Sub(angles[l.From], angles[l.To])
		over.Mul(over, big.NewRat(int64(l.Worth), 1))
		if out[i] {
			over.SetInt64(0)
		}
		if over.Cmp(flows[i]) != 0 {
			t.Errorf("Solve(%+v, %v, %q): %+v: the flow of line %d", n, out, feed, s, i)
		}
		left[l.From].Sub(left[l.From], flows[i])
		left[l.To].Add(left[l.To], flows[i])
	}
	for i := range n.Buses {
		node, island := slices.Index(nodes, nodes[i]), slices.Index(islands, islands[i])
		if angles[i].Cmp(angles[node]) != 0 || island == i && angles[i].Sign() != 0 {
			t.Errorf("Solve(%+v, %v, %q): %+v: the angle of bus %d", n, out, feed, s, i)
		}
		if node != i {
			left[node].Add(left[node], left[i])
			left[i].SetInt64(0)
		}
	}
	for i, x := range left {
		if x.Sign() != 0 {
			t.Errorf("Solve(%+v, %v, %q): %+v: of bus %d's node %v does not flow away", n, out, feed, s, i, x)
		}
	}
}

// P4.1: states of drawn networks and feeds, held against what a state is.
func TestDrawnStates(t *testing.T) {
	d := rand.New(rand.NewPCG(4, 1))
	for i := range 600 {
		n, out := drawn(d, 2+i%(api.MaxBuses-1), api.MaxLines, 6, api.MaxWorth)
		feed := drawnFeeds(t, d, n, out, 12)
		holds(t, n, out, feed, solved(t, n, out, feed))
	}
}

// P4.1, what comes of it: to feed twice as much makes all twice as great, to feed two things at once makes all their sum.
func TestSums(t *testing.T) {
	d := rand.New(rand.NewPCG(4, 2))
	for range 100 {
		n, out := drawn(d, 8, 16, 4, 30)
		a, b := drawnFeeds(t, d, n, out, 5), drawnFeeds(t, d, n, out, 5)
		s, r := solved(t, n, out, a), solved(t, n, out, b)
		wantState(t, n, out, each(t, a, a, (*big.Rat).Add), each(t, s.Angles, s.Angles, (*big.Rat).Add), each(t, s.Flows, s.Flows, (*big.Rat).Add))
		wantState(t, n, out, each(t, a, b, (*big.Rat).Add), each(t, s.Angles, r.Angles, (*big.Rat).Add), each(t, s.Flows, r.Flows, (*big.Rat).Add))
		wantState(t, n, out, each(t, a, b, (*big.Rat).Sub), each(t, s.Angles, r.Angles, (*big.Rat).Sub), each(t, s.Flows, r.Flows, (*big.Rat).Sub))
	}
}

// P4.1, what comes of it: what a bus feeds raises another one's angle as much as the other way round.
func TestOtherWayRound(t *testing.T) {
	d := rand.New(rand.NewPCG(4, 3))
	for range 60 {
		n, out := drawn(d, 8, 16, 4, 30)
		islands, _ := bars.Islands(n, out)
		var raised [][]string // by each bus that feeds one, of each bus
		for i, k := range islands {
			raised = append(raised, solved(t, n, out, through(n, i, slices.Index(islands, k))).Angles)
		}
		for a := range raised {
			for b := range raised {
				if raised[a][b] != raised[b][a] {
					t.Errorf("%+v, %v: bus %d raises %d by %s, that one the other by %s", n, out, a, b, raised[a][b], raised[b][a])
				}
			}
		}
	}
}

// P4.1: a line's own place and the way that it is told (From, To) change nothing but where and with which sign its flow stands.
func TestTurned(t *testing.T) {
	d := rand.New(rand.NewPCG(4, 4))
	for range 60 {
		n, out := drawn(d, 8, 16, 4, 30)
		feed := drawnFeeds(t, d, n, out, 5)
		s := solved(t, n, out, feed)
		for i, l := range n.Lines {
			n.Lines[i].From, n.Lines[i].To = l.To, l.From
		}
		slices.Reverse(n.Lines)
		slices.Reverse(out)
		flows := each(t, slices.Repeat([]string{"0"}, len(s.Flows)), s.Flows, (*big.Rat).Sub)
		slices.Reverse(flows)
		wantState(t, n, out, feed, s.Angles, flows)
	}
}

// P4.1: what is answered is new memory, and what is handed in stays as it is, its spare room too.
func TestOwnMemory(t *testing.T) {
	n := triangle()
	out := append(make([]bool, 0, 8), false, false, false)
	feed := append(make([]string, 0, 8), "5", "0", "-5")
	s := solved(t, n, out, feed)
	for _, l := range [][]string{s.Angles, s.Flows} {
		l = l[:cap(l)]
		for i := range l {
			l[i] = "x"
		}
	}
	if r := solved(t, n, out, feed); !slices.Equal(r.Angles, []string{"0", "-1", "-2"}) || !slices.Equal(r.Flows, []string{"1", "1", "4"}) {
		t.Error(r)
	}
	if !slices.Equal(feed[:8], []string{"5", "0", "-5", "", "", "", "", ""}) || slices.Contains(out[:8], true) {
		t.Error(feed[:8], out[:8])
	}
	if w := triangle(); !slices.Equal(n.Lines, w.Lines) || !slices.Equal(n.Buses, w.Buses) {
		t.Error(n)
	}
	s, r := solved(t, n, out, feed), solved(t, n, out, feed)
	s.Angles[0] = "y"
	s.Angles = append(s.Angles, "y")
	if !slices.Equal(r.Angles, []string{"0", "-1", "-2"}) || !slices.Equal(s.Flows, []string{"1", "1", "4"}) {
		t.Error(s, r)
	}
}
