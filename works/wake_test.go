package works_test

import (
	"slices"
	"testing"

	"gridworks/api"
)

// P16.5: what flows of what is generated and given, be that what is drawn or not, be it too much or not; over lines that are out, nothing.
func TestFlows(t *testing.T) {
	n := triangle(1, 1, 1, 9)
	world := func(out string, plan, given int) api.World {
		return api.World{Net: n, Out: flags(out), On: flags("1"), Plan: []int{plan}, Given: []int{given}}
	}
	wantFlows(t, world("000", 5, 5), "1", "1", "4")
	wantFlows(t, world("000", 9, 9), "9/5", "9/5", "36/5")
	wantFlows(t, world("001", 9, 9), "9", "9", "0")
	wantFlows(t, world("010", 7, 7), "0", "0", "7")
	wantFlows(t, world("000", 0, 0), "0", "0", "0")
	wantFlows(t, world("111", 0, 0), "0", "0", "0")
	n.Lines[2].From, n.Lines[2].To = 2, 0
	wantFlows(t, world("000", 5, 5), "1", "1", "-4")
	wantFlows(t, api.World{Net: api.Net{Name: "n"}})
	wantFlows(t, begun(t, network(3, nil, nil)))
}

// P16.5: all generators and loads of a bus count together, and those of buses that a closed tie joins.
func TestFlowsOfMany(t *testing.T) {
	n := with(network(4, []wire{{0, 1, 7, 0}, {2, 3, 2, 0}}, []wire{{1, 2, 0, 0}}), []gen{{0, 0, 9}, {0, 2, 9}, {2, 0, 9}, {3, 0, 9}}, []load{{0, 9}, {1, 9}, {3, 9}, {3, 9}})
	w := api.World{Net: n, Out: flags("00"), On: all(true, 4), Plan: []int{5, 6, 4, 1}, Given: []int{3, 2, 6, 5}}
	wantFlows(t, w, "8", "10")
	w.Net.Ties[0].Closed = false
	noFlows(t, w, api.ErrSum)
	w.Given = []int{3, 8, 5, 0}
	wantFlows(t, w, "8", "4")
}

// P16.5: an island does not generate what it is given, though all together may.
func TestNoFlows(t *testing.T) {
	n := with(network(4, []wire{{0, 1, 1, 9}, {2, 3, 1, 9}}, nil), []gen{{0, 0, 9}, {3, 0, 9}}, []load{{1, 9}, {2, 9}})
	w := api.World{Net: n, Out: flags("00"), On: flags("11"), Plan: []int{5, 4}, Given: []int{5, 4}}
	wantFlows(t, w, "5", "-4")
	for _, l := range [][4]int{{4, 5, 5, 4}, {5, 4, 4, 5}, {5, 4, 5, 3}, {5, 4, 6, 4}, {0, 0, 1, 0}, {0, 1, 0, 0}} {
		w.Plan, w.Given = l[:2], l[2:]
		noFlows(t, w, api.ErrSum)
	}
	w.Plan, w.Given = []int{5, 4}, []int{5, 4}
	w.Out = flags("10")
	noFlows(t, w, api.ErrSum)
	w.Out = flags("01")
	noFlows(t, w, api.ErrSum)
}

// P16.6: buses get live hop by hop, those of as many hops rising.
func TestWake(t *testing.T) {
	row := []wire{{3, 1, 1, 9}, {1, 4, 1, 9}, {4, 0, 1, 9}, {0, 2, 1, 9}} // 3-1-4-0-2
	n := with(network(6, row, nil), []gen{{4, 0, 9}, {3, 0, 9}, {2, 0, 9}}, nil)
	w := begun(t, n)
	wantWake(t, w, "100", 4, 0, 1, 2, 3)
	wantWake(t, w, "010", 3, 1, 4, 0, 2)
	wantWake(t, w, "001", 2, 0, 4, 1, 3)
	wantWake(t, w, "011", 2, 3, 0, 1, 4)
	wantWake(t, w, "111", 2, 3, 4, 0, 1)
	wantWake(t, w, "000")
	w.On = flags("001")
	wantWake(t, w, "010")
	wantWake(t, w, "111", 2, 0, 4, 1, 3)
	w.On = flags("111")
	w.Out = flags("0100")
	wantWake(t, w, "100", 4, 0, 2)
	wantWake(t, w, "010", 3, 1)
	wantWake(t, w, "110", 3, 4, 0, 1, 2)
	w.Out = flags("1111")
	wantWake(t, w, "111", 2, 3, 4)
}

// P16.6: a closed tie is one hop, as a line is; an open one is none; either may be taken both ways.
func TestWakeOverTies(t *testing.T) {
	n := with(network(5, []wire{{0, 2, 1, 9}}, []wire{{4, 0, 0, 0}, {4, 1, 0, 0}, {1, 3, 0, 0}}), []gen{{0, 0, 9}, {3, 0, 9}, {0, 0, 9}}, nil)
	w := begun(t, n)
	wantWake(t, w, "100", 0, 2, 4, 1, 3)
	wantWake(t, w, "010", 3, 1, 4, 0, 2)
	wantWake(t, w, "101", 0, 2, 4, 1, 3)
	wantWake(t, w, "110", 0, 3, 1, 2, 4)
	w.Net.Ties[1].Closed = false
	wantWake(t, w, "001", 0, 2, 4)
	wantWake(t, w, "010", 3, 1)
	w.Out[0] = true
	wantWake(t, w, "001", 0, 4)
}

// P16.6: whether an island is dark, and what is generated, does not matter.
func TestWakeOfDark(t *testing.T) {
	n := with(network(2, []wire{{1, 0, 1, 0}}, nil), []gen{{1, 5, 9}}, []load{{0, 3}})
	w := begun(t, n)
	if !slices.Equal(w.Plan, []int{0}) {
		t.Error(w)
	}
	wantWake(t, w, "1", 1, 0)
	wantWake(t, stepped(t, w, event(api.Start, 0, 0)), "1")
	wantWake(t, begun(t, api.Net{Name: "n"}), "")
	wantWake(t, begun(t, network(2, nil, nil)), "")
}

// P16.6: `black` tells of more or of fewer generators than there are.
func TestNoWake(t *testing.T) {
	for gens := range 4 {
		w := begun(t, single(slices.Repeat([]gen{{0, 0, 5}}, gens)))
		for size := range 6 {
			if size != gens {
				noWake(t, w, all(true, size), api.ErrSize)
				noWake(t, w, all(false, size), api.ErrSize)
			}
		}
	}
}
