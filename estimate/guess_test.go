package estimate_test

import (
	"math/big"
	"math/rand/v2"
	"slices"
	"strconv"
	"strings"
	"testing"

	"gridworks/api"
)

// P7.1: of chapter 4's triangle, just so, and with one measure that lies.
func TestGuess(t *testing.T) {
	n := triangle()
	l := []api.Measure{ofFlow(0, "1", 1), ofFlow(1, "1", 1), ofFlow(2, "4", 1), ofFeed(0, "5", 1)}
	wantGuess(t, n, lacking(n), l, []string{"0", "-1", "-2"}, []string{"1", "1", "4"}, []string{"0", "0", "0", "0"}, "0")
	l[3].Value = "8"
	wantGuess(t, n, lacking(n), l, []string{"0", "-47/26", "-67/26"}, []string{"47/26", "10/13", "67/13"}, []string{"-21/26", "3/13", "-15/13", "27/26"}, "81/26")
}

// P7.1: what counts more draws more: the state lies where both pull alike.
func TestWeights(t *testing.T) {
	n := network(2, []wire{{0, 1, 2}}, nil)
	for _, c := range []struct {
		a, b       int
		flow, cost string
	}{
		{1, 1, "5", "50"}, {1, 3, "15/2", "75"}, {4, 1, "2", "80"}, {1, api.MaxWeight, "10000/1001", "100000/1001"},
	} {
		x := rat(t, c.flow)
		l := []api.Measure{ofFlow(0, "0", c.a), ofFlow(0, "10", c.b)}
		angle := new(big.Rat).Quo(x, big.NewRat(-2, 1)).RatString()
		off := []string{new(big.Rat).Neg(x).RatString(), new(big.Rat).Sub(big.NewRat(10, 1), x).RatString()}
		wantGuess(t, n, lacking(n), l, []string{"0", angle}, []string{c.flow}, off, c.cost)
	}
}

// P7.1: each kind of measure alone tells the state of two buses, told at either of them.
func TestKinds(t *testing.T) {
	n := network(2, []wire{{1, 0, 5}}, nil)
	for _, l := range [][]api.Measure{{ofFlow(0, "15", 7)}, {ofFeed(0, "-15", 7)}, {ofFeed(1, "15", 7)}, {ofAngle(1, "3", 7)}} {
		wantGuess(t, n, lacking(n), l, []string{"0", "3"}, []string{"15"}, []string{"0"}, "0")
	}
	n = network(3, []wire{{0, 1, 2}, {2, 1, 3}}, nil)
	l := []api.Measure{ofFeed(1, "-1/3", 1), ofFlow(1, "1/2", 1)}
	wantGuess(t, n, lacking(n), l, []string{"0", "1/12", "1/4"}, []string{"-1/6", "1/2"}, []string{"0", "0"}, "0")
}

// P7.1: what no state can change is off by all of its Value: a line that is out or within one node, the first bus of an island, and what a bus without lines feeds.
func TestNothingThere(t *testing.T) {
	n := network(4, []wire{{0, 1, 2}, {0, 1, 9}, {2, 3, 4}}, []wire{{3, 2, 0}})
	l := []api.Measure{ofAngle(1, "-1", 3), ofFlow(1, "5", 2), ofFlow(2, "-1/2", 8), ofAngle(0, "3", 1), ofAngle(2, "1", 5), ofAngle(3, "2", 1), ofFeed(2, "4", 1), ofFeed(3, "1", 1)}
	wantGuess(t, n, lacking(n, 1), l, []string{"0", "-1", "0", "0"}, []string{"2", "0", "0"}, []string{"0", "5", "-1/2", "3", "1", "2", "4", "1"}, "87")
	l = []api.Measure{ofFlow(0, "1", 1), ofFlow(1, "2", 1), ofAngle(1, "3", 1), ofFeed(0, "4", 1)}
	wantGuess(t, n, lacking(n, 0, 1), l, []string{"0", "0", "0", "0"}, []string{"0", "0", "0"}, []string{"1", "2", "3", "4"}, "30")
}

// P7.1: buses of one node have one angle, and feed together; an open tie joins nothing.
func TestNodes(t *testing.T) {
	n := network(4, []wire{{0, 1, 1}, {2, 3, 1}, {3, 0, 1}}, []wire{{1, 2, 0}})
	l := []api.Measure{ofFeed(2, "-3", 1), ofFeed(1, "-3", 1), ofFeed(3, "0", 1)}
	wantGuess(t, n, lacking(n), l, []string{"0", "-2", "-2", "-1"}, []string{"2", "-1", "-1"}, []string{"0", "0", "0"}, "0")
	n.Ties[0].Closed = false
	l = []api.Measure{ofFeed(2, "-3", 1), ofFeed(1, "-3", 1), ofFeed(3, "0", 1)}
	wantGuess(t, n, lacking(n), l, []string{"0", "-3", "-6", "-3"}, []string{"3", "-3", "-3"}, []string{"0", "0", "0"}, "0")
}

// P7.1: each island has its own first bus; what is measured in one says nothing of the other.
func TestIslands(t *testing.T) {
	n := network(4, []wire{{1, 3, 2}, {0, 2, 3}}, nil)
	l := []api.Measure{ofFlow(0, "4", 1), ofFeed(2, "6", 1), ofFeed(0, "6", 1)}
	wantGuess(t, n, lacking(n), l, []string{"0", "0", "0", "-2"}, []string{"4", "0"}, []string{"0", "6", "6"}, "72")
	refused(t, n, lacking(n), l[1:], api.ErrNone)
	refused(t, n, lacking(n), l[:1], api.ErrNone)
}

// P7.1: where no angle is asked for there is one state, whatever is measured, even if nothing is.
func TestNothingAsked(t *testing.T) {
	wantGuess(t, api.Net{Name: "n"}, nil, nil, nil, nil, nil, "0")
	wantGuess(t, network(1, nil, nil), []bool{}, []api.Measure{}, []string{"0"}, nil, nil, "0")
	wantGuess(t, network(2, nil, []wire{{0, 1, 0}}), nil, nil, []string{"0", "0"}, nil, nil, "0")
	n := triangle()
	wantGuess(t, n, lacking(n, 0, 1, 2), nil, []string{"0", "0", "0"}, []string{"0", "0", "0"}, nil, "0")
	wantGuess(t, network(1, nil, nil), nil, []api.Measure{ofAngle(0, "-1/2", 3), ofFeed(0, "2", 1)}, []string{"0"}, nil, []string{"-1/2", "2"}, "19/4")
}

// P7.1: several states of least cost, if there is an angle that no measure sees, alone or with others.
func TestSeveral(t *testing.T) {
	n := triangle()
	for _, l := range [][]api.Measure{
		nil,
		{ofFlow(0, "1", 1)},
		{ofFlow(2, "1", 1), ofAngle(2, "1", 1), ofAngle(2, "2", 9), ofAngle(0, "0", 1)},
		{ofFeed(1, "0", 5)},
		{ofAngle(0, "1", 1), ofAngle(0, "2", 1), ofAngle(0, "3", 1)},
	} {
		refused(t, n, lacking(n), l, api.ErrNone)
	}
	refused(t, n, lacking(n, 2), []api.Measure{ofFeed(0, "1", 1), ofFlow(0, "1", 1), ofFlow(2, "1", 1)}, api.ErrNone)
	wantGuess(t, n, lacking(n, 2), []api.Measure{ofFeed(0, "1", 1), ofFlow(1, "1", 1)}, []string{"0", "-1", "-2"}, []string{"1", "1", "0"}, []string{"0", "0"}, "0")
	wantGuess(t, n, lacking(n, 0, 1), []api.Measure{ofFeed(0, "1", 1)}, []string{"0", "0", "-1/2"}, []string{"0", "0", "1"}, []string{"0"}, "0")
	refused(t, n, lacking(n, 0, 1), []api.Measure{ofFeed(1, "1", 1), ofFlow(0, "1", 1), ofAngle(1, "1", 1)}, api.ErrNone)
}

// P7.1: what all buses feed is 0 together: so of a ring the feeds of all but one tell all.
func TestFeedsAlone(t *testing.T) {
	n := triangle()
	two := []api.Measure{ofFeed(0, "5", 1), ofFeed(2, "-5", 1)}
	wantGuess(t, n, lacking(n), two, []string{"0", "-1", "-2"}, []string{"1", "1", "4"}, []string{"0", "0"}, "0")
	three := append(two, ofFeed(1, "3", 1))
	wantGuess(t, n, lacking(n), three, []string{"0", "0", "-2"}, []string{"0", "2", "4"}, []string{"1", "1", "1"}, "3")
}

// P7.1: as long Values as may be, and as many measures.
func TestLongest(t *testing.T) {
	n := network(2, []wire{{0, 1, 1}}, nil)
	over := "1/" + strings.Repeat("9", api.MaxDigits-2)
	wantGuess(t, n, lacking(n), []api.Measure{ofFlow(0, longest, 1)}, []string{"0", "-" + longest}, []string{longest}, []string{"0"}, "0")
	wantGuess(t, n, lacking(n), []api.Measure{ofAngle(1, over, 1), ofAngle(1, over, 1000)}, []string{"0", over}, []string{"-" + over}, []string{"0", "0"}, "0")
	l := slices.Repeat([]api.Measure{ofAngle(0, "1", api.MaxWeight)}, api.MaxMeasures)
	wantGuess(t, network(1, nil, nil), nil, l, []string{"0"}, nil, slices.Repeat([]string{"1"}, api.MaxMeasures), "40000")
}

// fits: whether a guess is a state, its offs and cost are as told, and the offs, weighed, are upright on all that the state may do.
func fits(t *testing.T, n api.Net, out []bool, l []api.Measure, g api.Guess) {
	t.Helper()
	nodes, islands := numbered(t, n, out)
	angles, offs := rats(t, g.Angles), rats(t, g.Off)
	for i := range n.Buses {
		if g.Angles[i] != g.Angles[slices.Index(nodes, nodes[i])] || g.Angles[slices.Index(islands, islands[i])] != "0" {
			t.Errorf("Guess(%+v, %v, %+v): %+v: the angle of bus %d", n, out, l, g, i)
		}
	}
	for i, x := range flowing(n, out, angles) {
		if x.RatString() != g.Flows[i] {
			t.Errorf("Guess(%+v, %v, %+v): %+v: the flow of line %d", n, out, l, g, i)
		}
	}
	cost := new(big.Rat)
	for i, m := range l {
		if x := has(t, n, out, angles, m); x.Sub(rat(t, m.Value), x).Cmp(offs[i]) != 0 {
			t.Errorf("Guess(%+v, %v, %+v): %+v: the off of measure %d", n, out, l, g, i)
		}
		x := new(big.Rat).Mul(offs[i], offs[i])
		cost.Add(cost, x.Mul(x, big.NewRat(int64(m.Weight), 1)))
	}
	if cost.RatString() != g.Cost {
		t.Errorf("Guess(%+v, %v, %+v): %+v: the cost is %v", n, out, l, g, cost)
	}
	for _, w := range ways(t, n, out) {
		all := new(big.Rat)
		for i, m := range l {
			x := new(big.Rat).Mul(offs[i], has(t, n, out, w, m))
			all.Add(all, x.Mul(x, big.NewRat(int64(m.Weight), 1)))
		}
		if all.Sign() != 0 {
			t.Errorf("Guess(%+v, %v, %+v): %+v: not upright on %v", n, out, l, g, w)
		}
	}
}

// P7.1, what comes of it: guesses of drawn measures, held against what a state of least cost is; and whether there is but one.
func TestDrawnGuesses(t *testing.T) {
	d := rand.New(rand.NewPCG(7, 1))
	one, several := 0, 0
	for i := range 400 {
		n, out := drawn(d, 2+i%8, 2+i%16, 4, 30)
		l := drawnMeasures(d, n, d.IntN(3*len(n.Buses)), 1+i%9)
		if seen(t, n, out, l) {
			one++
			fits(t, n, out, l, guessed(t, n, out, l))
		} else {
			several++
			refused(t, n, out, l, api.ErrNone)
		}
	}
	if one < 50 || several < 50 {
		t.Error(one, several)
	}
}

// P7.1, what comes of it: no state costs less, nor as little.
func TestNoStateCostsLess(t *testing.T) {
	d := rand.New(rand.NewPCG(7, 2))
	for tried := 0; tried < 40; {
		n, out := drawn(d, 6, 12, 3, 30)
		l := drawnMeasures(d, n, 12, 4)
		if !seen(t, n, out, l) {
			continue
		}
		tried++
		g := guessed(t, n, out, l)
		for _, w := range ways(t, n, out) {
			for range 3 {
				angles := rats(t, g.Angles)
				step := big.NewRat(int64(1+d.IntN(9)), int64(1+d.IntN(1000)))
				if d.IntN(2) == 0 {
					step.Neg(step)
				}
				for i := range angles {
					angles[i].Add(angles[i], new(big.Rat).Mul(step, w[i]))
				}
				cost := new(big.Rat)
				for _, m := range l {
					x := has(t, n, out, angles, m)
					x.Sub(rat(t, m.Value), x)
					x.Mul(x, x)
					cost.Add(cost, x.Mul(x, big.NewRat(int64(m.Weight), 1)))
				}
				if cost.Cmp(rat(t, g.Cost)) <= 0 {
					t.Errorf("%+v, %v, %+v: %v cost %v, the guess %s", n, out, l, angles, cost, g.Cost)
				}
			}
		}
	}
}

// greatest: a network of as many buses and lines as may be, of great Worths, and as many measures, whose Values are as long as may be and share no denominator.
func greatest() (api.Net, []bool, []api.Measure) {
	var lines []wire
	for i := range api.MaxLines {
		lines = append(lines, wire{i % api.MaxBuses, (i*i/api.MaxBuses + i + 1) % api.MaxBuses, api.MaxWorth - i})
	}
	n := network(api.MaxBuses, lines, nil)
	var l []api.Measure
	for i := range api.MaxMeasures {
		value := "1/1" + strings.Repeat("0", 52) + strconv.Itoa(10000+2*i+1)
		l = append(l, api.Measure{Kind: 1 + i%3, At: i % api.MaxBuses, Value: value, Weight: api.MaxWeight - i})
	}
	return n, lacking(n), l
}

// P7.1: of the greatest network and the longest measures.
func TestGreatest(t *testing.T) {
	n, out, l := greatest()
	if len(l[0].Value) != api.MaxDigits {
		t.Fatal(l[0].Value)
	}
	g := guessed(t, n, out, l)
	fits(t, n, out, l, g)
	if len(g.Cost) < api.MaxLong {
		t.Error(g.Cost)
	}
}

// P7.1: what is answered is new memory, and what is handed in stays as it is, its spare room too.
func TestOwnMemory(t *testing.T) {
	n := triangle()
	out := append(make([]bool, 0, 8), false, false, false)
	l := append(make([]api.Measure, 0, 8), ofFlow(0, "1", 1), ofFlow(1, "1", 1), ofFlow(2, "4", 1), ofFeed(0, "8", 1))
	told := slices.Clone(l[:8])
	g := guessed(t, n, out, l)
	for _, s := range [][]string{g.Angles, g.Flows, g.Off} {
		s = s[:cap(s)]
		for i := range s {
			s[i] = "x"
		}
	}
	wantGuess(t, n, out, l, []string{"0", "-47/26", "-67/26"}, []string{"47/26", "10/13", "67/13"}, []string{"-21/26", "3/13", "-15/13", "27/26"}, "81/26")
	wantWorst(t, n, out, l, 3, "81/26")
	wantClean(t, n, out, l, "0", 3)
	if !slices.Equal(l[:8], told) || slices.Contains(out[:8], true) {
		t.Error(l[:8], out[:8])
	}
	if w := triangle(); !slices.Equal(n.Lines, w.Lines) || !slices.Equal(n.Buses, w.Buses) {
		t.Error(n)
	}
}
