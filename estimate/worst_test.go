package estimate_test

import (
	"math/big"
	"math/rand/v2"
	"slices"
	"testing"

	"gridworks/api"
	"gridworks/estimate"
)

// P7.2: one measure of the triangle lies.
func TestWorst(t *testing.T) {
	n := triangle()
	l := []api.Measure{ofFlow(0, "1", 1), ofFlow(1, "1", 1), ofFlow(2, "4", 1), ofFeed(0, "8", 1)}
	wantWorst(t, n, lacking(n), l, 3, "81/26")
	slices.Reverse(l)
	wantWorst(t, n, lacking(n), l, 0, "81/26")
}

// P7.2: the first of several that are the same.
func TestFirstWorst(t *testing.T) {
	n := network(2, []wire{{0, 1, 3}}, nil)
	wantWorst(t, n, lacking(n), []api.Measure{ofFlow(0, "0", 1), ofFlow(0, "2", 1)}, 0, "2")
	wantWorst(t, n, lacking(n), []api.Measure{ofFlow(0, "0", 5), ofFlow(0, "2", 1)}, 0, "10/3")
	wantWorst(t, n, lacking(n), []api.Measure{ofAngle(0, "1", 1), ofFlow(0, "0", 5), ofFlow(0, "2", 1), ofAngle(0, "1", 3)}, 1, "10/3")
	wantWorst(t, n, lacking(n), []api.Measure{ofAngle(0, "1", 1), ofFlow(0, "0", 5), ofAngle(0, "1", 1)}, 0, "1")
}

// P7.2: how far a measure is off is not all: what the state follows counts for more.
func TestSlack(t *testing.T) {
	n := network(2, []wire{{0, 1, 1}}, nil)
	l := []api.Measure{ofFlow(0, "0", 10), ofFlow(0, "11", 1), ofAngle(0, "10", 1)}
	wantGuess(t, n, lacking(n), l, []string{"0", "-1"}, []string{"1"}, []string{"-1", "10", "10"}, "210")
	wantWorst(t, n, lacking(n), l, 0, "110")
	l[2].Value = "21/2"
	wantWorst(t, n, lacking(n), l, 2, "441/4")
}

// P7.2: a measure that is needed to know the state is never told of, be it the one that lies or not.
func TestNoSlack(t *testing.T) {
	n := triangle()
	wantWorst(t, n, lacking(n), []api.Measure{ofFlow(0, "1", 1), ofFlow(2, "4", 1)}, -1, "0")
	wantWorst(t, n, lacking(n), []api.Measure{ofFlow(0, "1", 1), ofFlow(2, "4", 1), ofAngle(1, "-1", 1)}, 0, "0")
	wantWorst(t, n, lacking(n), []api.Measure{ofFlow(2, "1000", 1), ofFlow(0, "1", 1), ofAngle(1, "1", 2)}, 1, "8/3")
	wantWorst(t, n, lacking(n), []api.Measure{ofFlow(2, "1000", 1), ofFlow(0, "1", 1), ofAngle(0, "1", 2)}, 2, "2")
	wantWorst(t, api.Net{Name: "n"}, nil, nil, -1, "0")
	wantWorst(t, network(3, nil, nil), nil, nil, -1, "0")
}

// P7.2: where nothing is off the first measure with a slack is told of, by 0.
func TestNothingOff(t *testing.T) {
	n := network(3, []wire{{0, 1, 1}, {1, 2, 1}}, nil)
	wantWorst(t, n, lacking(n), []api.Measure{ofFlow(0, "1", 1), ofFlow(1, "2", 1), ofFeed(2, "-2", 4)}, 1, "0")
	wantWorst(t, n, lacking(n), []api.Measure{ofFlow(0, "1", 1), ofFlow(1, "2", 1), ofAngle(0, "0", 4)}, 2, "0")
	wantWorst(t, network(1, nil, nil), nil, []api.Measure{ofAngle(0, "0", 3), ofFeed(0, "0", 1)}, 0, "0")
}

// P7.2: of what no state can change the slack is 1 over the Weight.
func TestWorstOfNothing(t *testing.T) {
	n := network(2, []wire{{0, 1, 3}}, nil)
	wantWorst(t, n, lacking(n, 0), []api.Measure{ofFlow(0, "3", 4)}, 0, "36")
	wantWorst(t, n, lacking(n, 0), []api.Measure{ofFlow(0, "3", 4), ofAngle(1, "-7/2", 3), ofFeed(1, "6", 1)}, 1, "147/4")
}

// P7.2: the worst of drawn measures, held against what is saved by leaving out each of them.
func TestDrawnWorst(t *testing.T) {
	d := rand.New(rand.NewPCG(7, 3))
	for tried := 0; tried < 80; {
		n, out := drawn(d, 6, 12, 3, 12)
		l := drawnMeasures(d, n, 2+d.IntN(10), 3)
		if !seen(t, n, out, l) {
			continue
		}
		tried++
		at, much := worst(t, n, out, l)
		wantWorst(t, n, out, l, at, much.RatString())
	}
}

// P7.2, what comes of it: if all measures but one are just so, that one is among the worst, as soon as others tell of it.
func TestLiar(t *testing.T) {
	d := rand.New(rand.NewPCG(7, 4))
	told := 0
	for told < 60 {
		n, out := drawn(d, 6, 12, 3, 12)
		l := drawnMeasures(d, n, 3+d.IntN(12), 3)
		if !seen(t, n, out, l) {
			continue
		}
		angles := noughts(len(n.Buses))
		for _, w := range ways(t, n, out) {
			part := big.NewRat(int64(d.IntN(21)-10), int64(1+d.IntN(3)))
			for i := range angles {
				angles[i].Add(angles[i], new(big.Rat).Mul(part, w[i]))
			}
		}
		for i, m := range l {
			l[i].Value = has(t, n, out, angles, m).RatString()
		}
		liar := d.IntN(len(l))
		lie := rat(t, l[liar].Value)
		l[liar].Value = lie.Add(lie, big.NewRat(int64(1+d.IntN(5)), 2)).RatString()
		x, slack := saved(t, n, out, l, guessed(t, n, out, l).Cost, liar)
		if !slack {
			continue
		}
		told++
		at, much, e := estimate.Worst(n, out, l)
		if e != api.OK || much != x.RatString() || at > liar || much == "0" {
			t.Errorf("Worst(%+v, %v, %+v): %d, %q, %d; measure %d lies", n, out, l, at, much, e, liar)
		}
	}
}

// P7.2: of the greatest network and the longest measures.
func TestGreatestWorst(t *testing.T) {
	n, out, l := greatest()
	at, much := worst(t, n, out, l)
	wantWorst(t, n, out, l, at, much.RatString())
}
