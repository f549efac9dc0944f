package estimate_test

import (
	"math/big"
	"math/rand/v2"
	"slices"
	"strconv"
	"testing"

	"gridworks/api"
	"gridworks/bars"
	"gridworks/estimate"
)

// wire: a line's ends, and its Worth; of a tie the Worth says nothing.
type wire struct{ from, to, worth int }

// network of so many buses, with these lines and closed ties.
func network(buses int, lines, ties []wire) api.Net {
	n := api.Net{Name: "n"}
	for i := range buses {
		n.Buses = append(n.Buses, "b"+strconv.Itoa(i))
	}
	for i, w := range lines {
		n.Lines = append(n.Lines, api.Line{Name: "l" + strconv.Itoa(i), From: w.from, To: w.to, Worth: w.worth, Limit: 10 * i})
	}
	for i, w := range ties {
		n.Ties = append(n.Ties, api.Tie{Name: "t" + strconv.Itoa(i), From: w.from, To: w.to, Closed: true})
	}
	return n
}

// triangle: chapter 4's.
func triangle() api.Net { return network(3, []wire{{0, 1, 1}, {1, 2, 1}, {0, 2, 2}}, nil) }

// lacking: which lines are out, told by their places.
func lacking(n api.Net, lines ...int) []bool {
	out := make([]bool, len(n.Lines))
	for _, i := range lines {
		out[i] = true
	}
	return out
}

// ofFlow, ofFeed, ofAngle: measures of each kind.
func ofFlow(at int, value string, weight int) api.Measure {
	return api.Measure{Kind: api.OfFlow, At: at, Value: value, Weight: weight}
}
func ofFeed(at int, value string, weight int) api.Measure {
	return api.Measure{Kind: api.OfFeed, At: at, Value: value, Weight: weight}
}
func ofAngle(at int, value string, weight int) api.Measure {
	return api.Measure{Kind: api.OfAngle, At: at, Value: value, Weight: weight}
}

func wantGuess(t *testing.T, n api.Net, out []bool, l []api.Measure, angles, flows, off []string, cost string) {
	t.Helper()
	g, e := estimate.Guess(n, out, l)
	if e != api.OK || !slices.Equal(g.Angles, angles) || !slices.Equal(g.Flows, flows) || !slices.Equal(g.Off, off) || g.Cost != cost {
		t.Errorf("Guess(%+v, %v, %+v): %+v, %d; %q, %q, %q and %q are wanted", n, out, l, g, e, angles, flows, off, cost)
	}
}

func wantWorst(t *testing.T, n api.Net, out []bool, l []api.Measure, at int, much string) {
	t.Helper()
	if k, s, e := estimate.Worst(n, out, l); e != api.OK || k != at || s != much {
		t.Errorf("Worst(%+v, %v, %+v): %d, %q, %d; %d and %q are wanted", n, out, l, k, s, e, at, much)
	}
}

func wantClean(t *testing.T, n api.Net, out []bool, l []api.Measure, most string, want ...int) {
	t.Helper()
	if k, e := estimate.Clean(n, out, l, most); e != api.OK || !slices.Equal(k, want) {
		t.Errorf("Clean(%+v, %v, %+v, %q): %v, %d; %v are wanted", n, out, l, most, k, e, want)
	}
}

// unclean: whether Clean refuses like this, with nothing beside it.
func unclean(t *testing.T, n api.Net, out []bool, l []api.Measure, most string, want api.Errno) {
	t.Helper()
	if k, e := estimate.Clean(n, out, l, most); e != want || len(k) != 0 {
		t.Errorf("Clean(%+v, %v, %+v, %q): %v, %d; %d is wanted", n, out, l, most, k, e, want)
	}
}

// refused: whether all three refuse like this, with nothing beside it; Clean whatever else is wrong with its `most`.
func refused(t *testing.T, n api.Net, out []bool, l []api.Measure, want api.Errno) {
	t.Helper()
	g, e := estimate.Guess(n, out, l)
	if e != want || len(g.Angles)+len(g.Flows)+len(g.Off) != 0 || g.Cost != "" {
		t.Errorf("Guess(%+v, %v, %+v): %+v, %d; %d is wanted", n, out, l, g, e, want)
	}
	if k, s, e := estimate.Worst(n, out, l); e != want || k != 0 || s != "" {
		t.Errorf("Worst(%+v, %v, %+v): %d, %q, %d; %d is wanted", n, out, l, k, s, e, want)
	}
	for _, most := range []string{"0", "5", "x", longest + "1"} {
		unclean(t, n, out, l, most, want)
	}
}

// longest: a number of as many bytes as may be.
const longest = "123456789012345678901234567890123456789012345678901234567890"

// rat: a number, which must be in form.
func rat(t *testing.T, s string) *big.Rat {
	t.Helper()
	x, ok := new(big.Rat).SetString(s)
	if !ok || x.RatString() != s {
		t.Fatalf("%q is not in form", s)
	}
	return x
}

func rats(t *testing.T, l []string) []*big.Rat {
	t.Helper()
	var m []*big.Rat
	for _, s := range l {
		m = append(m, rat(t, s))
	}
	return m
}

// noughts: so many.
func noughts(count int) []*big.Rat {
	l := make([]*big.Rat, count)
	for i := range l {
		l[i] = new(big.Rat)
	}
	return l
}

// drawn: a network of at most so many buses, lines and ties, and which lines are out.
func drawn(d *rand.Rand, buses, lines, ties, worth int) (api.Net, []bool) {
	b := 2 + d.IntN(buses-1)
	wires := func(most int) []wire {
		l := make([]wire, d.IntN(most+1))
		for i := range l {
			x := d.IntN(b)
			l[i] = wire{x, (x + 1 + d.IntN(b-1)) % b, 1 + d.IntN(worth)}
		}
		return l
	}
	n := network(b, wires(lines), wires(ties))
	for i := range n.Ties {
		n.Ties[i].Closed = d.IntN(2) == 0
	}
	out := make([]bool, len(n.Lines))
	for i := range out {
		out[i] = d.IntN(6) == 0
	}
	return n, out
}

// drawnMeasures: so many, of all kinds, with fractions (over at most under) as Values.
func drawnMeasures(d *rand.Rand, n api.Net, count, under int) []api.Measure {
	l := make([]api.Measure, count)
	for i := range l {
		value := big.NewRat(int64(d.IntN(201)-100), int64(1+d.IntN(under))).RatString()
		weight := 1 + d.IntN(20)
		switch k := d.IntN(3); {
		case k == 0 && len(n.Lines) > 0:
			l[i] = ofFlow(d.IntN(len(n.Lines)), value, weight)
		case k == 1:
			l[i] = ofFeed(d.IntN(len(n.Buses)), value, weight)
		default:
			l[i] = ofAngle(d.IntN(len(n.Buses)), value, weight)
		}
	}
	return l
}

func numbered(t *testing.T, n api.Net, out []bool) (nodes, islands []int) {
	t.Helper()
	nodes, e := bars.Nodes(n)
	islands, f := bars.Islands(n, out)
	if e != api.OK || f != api.OK {
		t.Fatalf("%+v, %v: %d, %d", n, out, e, f)
	}
	return nodes, islands
}

// flowing: what flows over each line, of the buses' angles.
func flowing(n api.Net, out []bool, angles []*big.Rat) []*big.Rat {
	flows := noughts(len(n.Lines))
	for i, l := range n.Lines {
		if !out[i] {
			flows[i].Sub(angles[l.From], angles[l.To])
			flows[i].Mul(flows[i], big.NewRat(int64(l.Worth), 1))
		}
	}
	return flows
}

// has: what a state has there where a measure is.
func has(t *testing.T, n api.Net, out []bool, angles []*big.Rat, m api.Measure) *big.Rat {
	t.Helper()
	flows := flowing(n, out, angles)
	x := new(big.Rat)
	switch m.Kind {
	case api.OfFlow:
		x.Set(flows[m.At])
	case api.OfAngle:
		x.Set(angles[m.At])
	case api.OfFeed:
		nodes, _ := numbered(t, n, out)
		for i, l := range n.Lines {
			if nodes[l.From] == nodes[m.At] {
				x.Add(x, flows[i])
			}
			if nodes[l.To] == nodes[m.At] {
				x.Sub(x, flows[i])
			}
		}
	}
	return x
}

// ways that a state may be other: of each node but the islands' first ones the angles with 1 there.
func ways(t *testing.T, n api.Net, out []bool) [][]*big.Rat {
	t.Helper()
	nodes, islands := numbered(t, n, out)
	var l [][]*big.Rat
	for bus := range n.Buses {
		if slices.Index(nodes, nodes[bus]) != bus || slices.Index(islands, islands[bus]) == bus {
			continue
		}
		angles := noughts(len(n.Buses))
		for other := range n.Buses {
			if nodes[other] == nodes[bus] {
				angles[other].SetInt64(1)
			}
		}
		l = append(l, angles)
	}
	return l
}

// seen: whether the measures tell all that a state may do: of the table of what they have, as many rows are needed as there are ways.
func seen(t *testing.T, n api.Net, out []bool, l []api.Measure) bool {
	t.Helper()
	w := ways(t, n, out)
	var table [][]*big.Rat
	for _, m := range l {
		var row []*big.Rat
		for _, angles := range w {
			row = append(row, has(t, n, out, angles, m))
		}
		table = append(table, row)
	}
	for c := range w {
		k := slices.IndexFunc(table, func(row []*big.Rat) bool { return row[c].Sign() != 0 })
		if k < 0 {
			return false
		}
		by := table[k]
		table = slices.Delete(table, k, k+1)
		for _, row := range table {
			part := new(big.Rat).Quo(row[c], by[c])
			for i := range row {
				row[i].Sub(row[i], new(big.Rat).Mul(part, by[i]))
			}
		}
	}
	return true
}

// guessed: the state that measures tell which tell one.
func guessed(t *testing.T, n api.Net, out []bool, l []api.Measure) api.Guess {
	t.Helper()
	g, e := estimate.Guess(n, out, l)
	if e != api.OK || len(g.Angles) != len(n.Buses) || len(g.Flows) != len(n.Lines) || len(g.Off) != len(l) {
		t.Fatalf("Guess(%+v, %v, %+v): %+v, %d", n, out, l, g, e)
	}
	return g
}

// without: the measures but one.
func without(l []api.Measure, at int) []api.Measure {
	return slices.Delete(slices.Clone(l), at, at+1)
}

// saved: by how much less it costs without a measure than with all; false: it is needed to know the state. (That this is its off times off, over its slack, is known of least squares.)
func saved(t *testing.T, n api.Net, out []bool, l []api.Measure, cost string, at int) (*big.Rat, bool) {
	t.Helper()
	less := without(l, at)
	if !seen(t, n, out, less) {
		return nil, false
	}
	x := rat(t, cost)
	return x.Sub(x, rat(t, guessed(t, n, out, less).Cost)), true
}

// worst: what Worst should tell, found by leaving out each measure.
func worst(t *testing.T, n api.Net, out []bool, l []api.Measure) (int, *big.Rat) {
	t.Helper()
	at, much := -1, new(big.Rat)
	cost := guessed(t, n, out, l).Cost
	for i := range l {
		if x, slack := saved(t, n, out, l, cost, i); slack && (at < 0 || x.Cmp(much) > 0) {
			at, much = i, x
		}
	}
	return at, much
}
