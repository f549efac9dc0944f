package flow_test

import (
	"math/big"
	"math/rand/v2"
	"slices"
	"strings"
	"testing"

	"gridworks/api"
	"gridworks/bars"
	"gridworks/flow"
)

// P4.2: the chapter's example, and what is left of it without lines.
func TestTrees(t *testing.T) {
	n := triangle()
	wantTrees(t, n, without(n), "5")
	wantTrees(t, n, without(n, 0), "2")
	wantTrees(t, n, without(n, 2), "1")
	wantTrees(t, n, without(n, 0, 1), "2")
	wantTrees(t, n, without(n, 0, 1, 2), "1")
}

// P4.2: a forest without lines weighs 1.
func TestNoLines(t *testing.T) {
	wantTrees(t, api.Net{Name: "n"}, nil, "1")
	wantTrees(t, api.Net{Name: "n"}, []bool{}, "1")
	wantTrees(t, network(1, nil, nil), nil, "1")
	wantTrees(t, network(5, nil, nil), nil, "1")
	wantTrees(t, network(5, nil, []wire{{0, 1, 0}, {3, 4, 0}}), nil, "1")
}

// P4.2: lines side by side weigh together, lines in a row times each other; islands, too.
func TestWeights(t *testing.T) {
	n := network(2, []wire{{0, 1, 3}, {1, 0, 5}, {0, 1, 7}}, nil)
	wantTrees(t, n, without(n), "15")
	wantTrees(t, n, without(n, 1), "10")
	n = network(4, []wire{{3, 1, 3}, {1, 0, 5}, {0, 2, 7}}, nil)
	wantTrees(t, n, without(n), "105")
	wantTrees(t, n, without(n, 1), "21")
	n = network(6, []wire{{0, 2, 3}, {2, 4, 5}, {4, 0, 7}, {1, 3, 2}, {3, 1, 9}}, nil)
	wantTrees(t, n, without(n), "781")
}

// P4.2: a line within one node is a ring of its own: no forest has it.
func TestWithinNode(t *testing.T) {
	n := network(3, []wire{{0, 1, 3}, {1, 2, 5}, {0, 2, 7}}, []wire{{2, 0, 0}})
	wantTrees(t, n, without(n), "8")
	wantTrees(t, n, without(n, 2), "8")
	wantTrees(t, n, without(n, 0, 1), "1")
	n.Ties[0].Closed = false
	wantTrees(t, n, without(n), "71")
}

// P4.2: where each bus has a line to each other one: as many trees as there are buses, times itself as often as there are buses but two.
func TestAllJoined(t *testing.T) {
	for buses := 2; buses <= 8; buses++ {
		var lines []wire
		for a := range buses {
			for b := range a {
				lines = append(lines, wire{b, a, 1})
			}
		}
		want := new(big.Int).Exp(big.NewInt(int64(buses)), big.NewInt(int64(buses-2)), nil)
		n := network(buses, lines, nil)
		wantTrees(t, n, without(n), want.String())
	}
}

// P4.2: a long row of the greatest Worths: a number of 61 digits.
func TestGreatest(t *testing.T) {
	var row []wire
	for i := range api.MaxBuses - 1 {
		row = append(row, wire{i + 1, i, api.MaxWorth})
	}
	n := network(api.MaxBuses, row, nil)
	wantTrees(t, n, without(n), "1"+strings.Repeat("0", 4*len(row)))
	n = network(api.MaxBuses, append(row, row...), nil)
	wantTrees(t, n, without(n), "32768"+strings.Repeat("0", 4*len(row)))
}

// byHand: the weights of all forests, set by set.
func byHand(n api.Net, out []bool) *big.Int {
	nodes, _ := bars.Nodes(n)
	islands, _ := bars.Islands(n, out)
	all := new(big.Int)
	for set := range 1 << len(n.Lines) {
		name := slices.Clone(nodes)
		weight := big.NewInt(1)
		for i, l := range n.Lines {
			if set>>i&1 == 0 {
				continue
			}
			from, to := name[l.From], name[l.To]
			if out[i] || from == to {
				weight.SetInt64(0)
			}
			weight.Mul(weight, big.NewInt(int64(l.Worth)))
			for bus := range name {
				if name[bus] == from {
					name[bus] = to
				}
			}
		}
		for bus := range name { // each island must be of one name
			if name[bus] != name[slices.Index(islands, islands[bus])] {
				weight.SetInt64(0)
			}
		}
		all.Add(all, weight)
	}
	return all
}

// P4.2: trees of drawn networks, held against all sets of lines.
func TestDrawnTrees(t *testing.T) {
	d := rand.New(rand.NewPCG(4, 5))
	for range 300 {
		n, out := drawn(d, 6, 9, 3, 20)
		wantTrees(t, n, out, byHand(n, out).String())
	}
}

// P4.2: a forest has a line or not: those that have it are the line's Worth times those of the network in which a tie stands for it.
func TestWithAndWithout(t *testing.T) {
	d := rand.New(rand.NewPCG(4, 6))
	for range 60 {
		n, out := drawn(d, api.MaxBuses, api.MaxLines, 4, api.MaxWorth)
		nodes, _ := bars.Nodes(n)
		bridges, _ := bars.Bridges(n, out)
		for i, l := range n.Lines {
			if out[i] || nodes[l.From] == nodes[l.To] {
				continue
			}
			less := slices.Clone(out)
			less[i] = true
			joined := n
			joined.Ties = append(slices.Clone(n.Ties), api.Tie{Name: "x", From: l.From, To: l.To, Closed: true})
			want := counted(t, joined, less)
			want.Mul(want, big.NewRat(int64(l.Worth), 1))
			if !slices.Contains(bridges, i) { // without a bridge nothing joins its island
				want.Add(want, counted(t, n, less))
			}
			wantTrees(t, n, out, want.RatString())
		}
	}
}

// P4.2: of whole feeds, times it all angles are whole.
func TestWholeAngles(t *testing.T) {
	d := rand.New(rand.NewPCG(4, 7))
	for range 100 {
		n, out := drawn(d, 8, 16, 4, 30)
		feed := drawnFeeds(t, d, n, out, 1)
		trees := counted(t, n, out)
		for _, a := range rats(t, solved(t, n, out, feed).Angles) {
			if !a.Mul(a, trees).IsInt() {
				t.Errorf("%+v, %v, %q: an angle times %v is %v", n, out, feed, trees, a)
			}
		}
	}
}

// P4.2: what is handed in stays as it is.
func TestTreesOwnMemory(t *testing.T) {
	n := triangle()
	out := append(make([]bool, 0, 8), false, true, false)
	if w, e := flow.Trees(n, out); w != "2" || e != api.OK {
		t.Error(w, e)
	}
	if !slices.Equal(out[:8], []bool{false, true, false, false, false, false, false, false}) || !slices.Equal(n.Lines, triangle().Lines) {
		t.Error(n, out[:8])
	}
}
