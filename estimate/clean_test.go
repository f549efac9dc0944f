package estimate_test

import (
	"math/rand/v2"
	"slices"
	"testing"

	"gridworks/api"
	"gridworks/estimate"
)

// P7.3: the one measure of the triangle that lies is taken out, if its cost is too much.
func TestClean(t *testing.T) {
	n := triangle()
	l := []api.Measure{ofFlow(0, "1", 1), ofFlow(1, "1", 1), ofFlow(2, "4", 1), ofFeed(0, "8", 1)}
	wantClean(t, n, lacking(n), l, "0", 3)
	wantClean(t, n, lacking(n), l, "3", 3)
	wantClean(t, n, lacking(n), l, "40/13", 3)
	wantClean(t, n, lacking(n), l, "81/26")
	wantClean(t, n, lacking(n), l, "41/13")
	wantClean(t, n, lacking(n), l, longest)
}

// P7.3: those that are taken out are told rising, whichever went first, by their places in the whole list.
func TestRising(t *testing.T) {
	n := network(1, nil, nil)
	l := []api.Measure{ofAngle(0, "2", 1), ofAngle(0, "0", 1), ofAngle(0, "1", 1), ofAngle(0, "4", 1), ofAngle(0, "-3", 1), ofAngle(0, "2", 1)}
	for _, c := range []struct {
		most string
		want []int
	}{
		{"34", nil}, {"33", []int{3}}, {"18", []int{3}}, {"17", []int{3, 4}}, {"9", []int{3, 4}}, {"8", []int{0, 3, 4}}, {"5", []int{0, 3, 4}},
		{"4", []int{0, 3, 4, 5}}, {"1", []int{0, 3, 4, 5}}, {"999/1000", []int{0, 2, 3, 4, 5}}, {"0", []int{0, 2, 3, 4, 5}}, {"-1/1000", []int{0, 1, 2, 3, 4, 5}},
	} {
		wantClean(t, n, nil, l, c.most, c.want...)
	}
}

// P7.3: what is needed to know the state stays, however much it costs; below 0 all else is taken out.
func TestNeeded(t *testing.T) {
	n := triangle()
	l := []api.Measure{ofFlow(0, "1", 1), ofFlow(1, "1", 1), ofFlow(2, "4", 1), ofFeed(0, "5", 1)}
	wantClean(t, n, lacking(n), l, "0")
	wantClean(t, n, lacking(n), l, "-1", 0, 1)
	wantClean(t, n, lacking(n), l[2:], "-1")
	wantClean(t, n, lacking(n), l[:3], "-"+longest[:api.MaxDigits-1], 0)
	wantClean(t, api.Net{Name: "n"}, nil, nil, "-1")
	wantClean(t, api.Net{Name: "n"}, nil, nil, "0")
}

// P7.3: what is the worst is asked anew each time.
func TestAskedAnew(t *testing.T) {
	n := network(2, []wire{{0, 1, 1}}, nil)
	l := []api.Measure{ofFlow(0, "0", 2), ofFlow(0, "10", 1), ofFlow(0, "0", 2), ofFlow(0, "9", 2)}
	wantClean(t, n, lacking(n), l, "100", 3)
	wantClean(t, n, lacking(n), l, "10", 1, 3)
	wantClean(t, n, lacking(n), l, "-1", 0, 1, 3)
}

// cleaned: what Clean should tell, step by step: as Guess and Worst tell of what is left.
func cleaned(t *testing.T, n api.Net, out []bool, l []api.Measure, most string) []int {
	t.Helper()
	var taken []int
	places := make([]int, len(l))
	for i := range places {
		places[i] = i
	}
	for rat(t, guessed(t, n, out, l).Cost).Cmp(rat(t, most)) > 0 {
		at, _, e := estimate.Worst(n, out, l)
		if e != api.OK {
			t.Fatalf("Worst(%+v, %v, %+v): %d", n, out, l, e)
		}
		if at < 0 {
			break
		}
		taken = append(taken, places[at])
		places = slices.Delete(places, at, at+1)
		l = without(l, at)
	}
	slices.Sort(taken)
	return taken
}

// P7.3: drawn measures, held against what Guess and Worst tell step by step.
func TestDrawnClean(t *testing.T) {
	d := rand.New(rand.NewPCG(7, 5))
	for tried := 0; tried < 80; {
		n, out := drawn(d, 6, 12, 3, 12)
		l := drawnMeasures(d, n, 2+d.IntN(14), 3)
		if !seen(t, n, out, l) {
			continue
		}
		tried++
		for _, most := range []string{"-1", "0", "1/7", "100", "5000", "100000"} {
			wantClean(t, n, out, l, most, cleaned(t, n, out, l, most)...)
		}
	}
}

// P7.3: of the greatest network and the longest measures: all but as many as angles are asked for are taken out.
func TestGreatestClean(t *testing.T) {
	n, out, l := greatest()
	k, e := estimate.Clean(n, out, l, "-1")
	if e != api.OK || len(k) != api.MaxMeasures-(api.MaxBuses-1) || !slices.IsSorted(k) {
		t.Error(k, e)
	}
	wantClean(t, n, out, l, "1/1"+longest[:30], cleaned(t, n, out, l, "1/1"+longest[:30])...)
}

// P7.3: what is answered is new memory.
func TestCleanOwnMemory(t *testing.T) {
	n := triangle()
	l := []api.Measure{ofFlow(0, "1", 1), ofFlow(1, "1", 1), ofFlow(2, "4", 1), ofFeed(0, "8", 1)}
	k, e := estimate.Clean(n, lacking(n), l, "0")
	if e != api.OK || len(k) != 1 {
		t.Fatal(k, e)
	}
	k = k[:cap(k)]
	for i := range k {
		k[i] = 7
	}
	wantClean(t, n, lacking(n), l, "0", 3)
}
