package shift_test

import (
	"math/rand/v2"
	"slices"
	"testing"

	"gridworks/api"
)

// P5.1: chapter 4's triangle, whole and without lines.
func TestShares(t *testing.T) {
	n := triangle()
	wantShares(t, n, lacking(n), "0 -3/5 -1/5", "0 2/5 -1/5", "0 -2/5 -4/5")
	wantShares(t, n, lacking(n, 2), "0 -1 -1", "0 0 -1", "0 0 0")
	wantShares(t, n, lacking(n, 0), "0 0 0", "0 1 0", "0 -1 -1")
	wantShares(t, n, lacking(n, 0, 1, 2), "0 0 0", "0 0 0", "0 0 0")
}

// P5.1: below 0 it flows from To to From.
func TestSharesEitherWay(t *testing.T) {
	n := network(3, []wire{{0, 1, 7}, {2, 0, 9}}, nil)
	wantShares(t, n, lacking(n), "0 -1 0", "0 0 1")
}

// P5.1: of lines between the same buses each has its part, by its Worth.
func TestSharesParallel(t *testing.T) {
	n := network(2, []wire{{0, 1, 1}, {1, 0, 2}, {0, 1, 3}}, nil)
	wantShares(t, n, lacking(n), "0 -1/6", "0 1/3", "0 -1/2")
	wantShares(t, n, lacking(n, 1), "0 -1/4", "0 0", "0 -3/4")
}

// P5.1: it is drawn at the first bus of the same island, be that the network's first one or not.
func TestSharesOfIslands(t *testing.T) {
	n := network(6, []wire{{5, 0, 1}, {4, 1, 2}, {1, 3, 4}}, nil)
	wantShares(t, n, lacking(n), "0 0 0 0 0 1", "0 0 0 0 1 0", "0 0 0 -1 0 0")
	wantShares(t, n, lacking(n, 1), "0 0 0 0 0 1", "0 0 0 0 0 0", "0 0 0 -1 0 0")
	n = network(5, []wire{{3, 4, 1}, {1, 2, 1}, {2, 3, 1}}, nil)
	wantShares(t, n, lacking(n), "0 0 0 0 -1", "0 0 -1 -1 -1", "0 0 0 -1 -1")
	wantShares(t, n, lacking(n, 2), "0 0 0 0 -1", "0 0 -1 0 0", "0 0 0 0 0")
}

// P5.1: buses of one node have the same share; within it nothing flows; an open tie joins nothing.
func TestSharesOfNodes(t *testing.T) {
	n := network(4, []wire{{0, 1, 2}, {2, 3, 1}, {1, 2, 5}}, []wire{{1, 2, 0}})
	wantShares(t, n, lacking(n), "0 -1 -1 -1", "0 0 0 -1", "0 0 0 0")
	n.Ties[0].Closed = false
	wantShares(t, n, lacking(n), "0 -1 -1 -1", "0 0 0 -1", "0 0 -1 -1")
	wantShares(t, n, lacking(n, 2), "0 -1 0 0", "0 0 0 -1", "0 0 0 0")
	n = network(4, []wire{{1, 3, 1}, {1, 2, 2}}, []wire{{3, 0, 0}})
	wantShares(t, n, lacking(n), "0 1 1 0", "0 0 -1 0")
}

// P5.1: without lines nothing is told; generators and loads say nothing.
func TestSharesOfLittle(t *testing.T) {
	wantShares(t, api.Net{Name: "n"}, nil)
	wantShares(t, api.Net{Name: "n"}, []bool{})
	wantShares(t, network(1, nil, nil), nil)
	wantShares(t, network(3, nil, []wire{{0, 1, 0}}), nil)
	n := triangle()
	n.Gens = []api.Gen{{Name: "g", Bus: 1, Least: 3, Most: 9, Cost: 2}}
	n.Loads = []api.Load{{Name: "d", Bus: 0, Power: 7}}
	wantShares(t, n, lacking(n), "0 -3/5 -1/5", "0 2/5 -1/5", "0 -2/5 -4/5")
}

// P5.1: shares of drawn networks, held against what chapter 4 tells of each bus.
func TestDrawnShares(t *testing.T) {
	d := rand.New(rand.NewPCG(5, 1))
	for i := range 150 {
		n, out := drawn(d, 2+i%(api.MaxBuses-1), api.MaxLines, 6, api.MaxWorth)
		s := sharesOf(t, n, out)
		for bus, first := range firsts(t, n, out) {
			feed := slices.Repeat([]string{"0"}, len(n.Buses))
			if bus != first {
				feed[bus], feed[first] = "1", "-1"
			}
			for line, want := range flowsOf(t, n, out, feed) {
				if s[line][bus] != want {
					t.Errorf("Shares(%+v, %v): of line %d, bus %d: %s; %s is wanted", n, out, line, bus, s[line][bus], want)
				}
			}
		}
	}
}

// P5.1: what flows is what each bus feeds times its share, together.
func TestSharesOfFeeds(t *testing.T) {
	d := rand.New(rand.NewPCG(5, 2))
	for range 100 {
		n, out := drawn(d, 8, 16, 4, 30)
		feed := drawnFeeds(t, d, n, out)
		s := sharesOf(t, n, out)
		for line, want := range flowsOf(t, n, out, feed) {
			all := "0"
			for bus := range feed {
				all = plus(t, all, s[line][bus], feed[bus])
			}
			if all != want {
				t.Errorf("%+v, %v, %q: over line %d flow %s; of its shares come %s", n, out, feed, line, want, all)
			}
		}
	}
}

// P5.1: as many buses and lines as may be, with the greatest Worths: what each bus feeds in flows away from it, and passes all others.
func TestSharesOfMost(t *testing.T) {
	n := largest()
	s := sharesOf(t, n, lacking(n))
	for bus := range n.Buses {
		away := slices.Repeat([]string{"0"}, len(n.Buses))
		for i, l := range n.Lines {
			away[l.From] = plus(t, away[l.From], "1", s[i][bus])
			away[l.To] = plus(t, away[l.To], "-1", s[i][bus])
		}
		want := slices.Repeat([]string{"0"}, len(n.Buses))
		if bus != 0 {
			want[bus], want[0] = "1", "-1"
		}
		if !slices.Equal(away, want) {
			t.Errorf("of bus %d %q flow away; %q are wanted", bus, away, want)
		}
	}
	if len(s[0][1]) < 2*api.MaxDigits {
		t.Error("a share is short:", s[0][1])
	}
}

// P5.1: what is answered is new memory, no two lists of it share any, and what is handed in stays as it is, its spare room too.
func TestSharesOwnMemory(t *testing.T) {
	n := triangle()
	out := append(make([]bool, 0, 8), false, false, false)
	s := sharesOf(t, n, out)
	for i := range s {
		kept := slices.Concat(slices.Clone(s[:i]), slices.Clone(s[i+1:]))
		for j := range kept {
			kept[j] = slices.Clone(kept[j])
		}
		room := s[i][:cap(s[i])]
		for j := range room {
			room[j] = "x"
		}
		for j, l := range slices.Concat(s[:i], s[i+1:]) {
			if !slices.Equal(l, kept[j]) {
				t.Error("lists share memory:", s)
			}
		}
	}
	wantShares(t, n, out, "0 -3/5 -1/5", "0 2/5 -1/5", "0 -2/5 -4/5")
	if slices.Contains(out[:8], true) || !slices.Equal(n.Lines, triangle().Lines) || !slices.Equal(n.Buses, triangle().Buses) {
		t.Error(n, out[:8])
	}
}
