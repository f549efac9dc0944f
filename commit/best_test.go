package commit_test

import (
	"math/rand/v2"
	"slices"
	"sync"
	"testing"

	"gridworks/api"
	"gridworks/commit"
)

// P9.5: the chapter's example, and what becomes of it when it has to stay as it is.
func TestBest(t *testing.T) {
	l := []api.Unit{example()}
	wantBest(t, l, []int{0, 20, 30}, noughts(3), hours("0", "1", "1"), 200)
	wantBest(t, l, []int{10, 20, 0}, noughts(3), hours("1", "1", "0"), 160)
	noBest(t, l, []int{0, 20, 0}, noughts(3), api.ErrNone) // Least 10 would be generated in the last hour, too
	l[0].Up = 1
	wantBest(t, l, []int{0, 20, 0}, noughts(3), hours("0", "1", "0"), 140)
	l[0].Least, l[0].Up = 0, 2
	wantBest(t, l, []int{0, 20, 0}, noughts(3), hours("0", "1", "1"), 140)
}

// P9.5: the cheapest one at work is not always the cheapest one: to turn it on costs, too.
func TestStarts(t *testing.T) {
	cheap, dear := free(0, 50, 1), free(0, 50, 3)
	cheap.Was, cheap.Start = -1, 100
	l := []api.Unit{cheap, dear}
	wantBest(t, l, []int{40}, noughts(1), hours("01"), 120)
	wantBest(t, l, []int{49}, noughts(1), hours("01"), 147)
	wantBest(t, l, []int{20, 29}, noughts(2), hours("01", "01"), 147)
	wantBest(t, l, []int{20, 30}, noughts(2), hours("01", "01"), 150) // as much as to turn it on: off is ahead
	wantBest(t, l, []int{20, 31}, noughts(2), hours("10", "10"), 151)
	wantBest(t, l, []int{40, 0, 40}, noughts(3), hours("10", "10", "10"), 180) // to stay on is cheaper than to be turned on again
}

// P9.5: what is off too soon can't be on when it is needed most; what is on too late has to stay.
func TestLookAhead(t *testing.T) {
	base, peak := free(10, 20, 1), free(0, 20, 9)
	base.Down, base.Was = 3, 5
	wantBest(t, []api.Unit{base, peak}, []int{10, 10, 30}, noughts(3), hours("10", "10", "11"), 10+10+20+90)
	noBest(t, []api.Unit{base, peak}, []int{10, 5, 30}, noughts(3), api.ErrNone) // base generates too much in the second hour, and would be off in the third
	wantBest(t, []api.Unit{base, peak}, []int{10, 5, 5, 5, 30}, noughts(5), hours("10", "01", "01", "01", "11"), 10+135+20+90)
	base.Up, base.Was = 3, -9
	wantBest(t, []api.Unit{base, peak}, []int{20, 20, 5}, noughts(3), hours("01", "01", "01"), 405)
	wantBest(t, []api.Unit{base, peak}, []int{20, 20, 10, 5}, noughts(4), hours("10", "10", "10", "01"), 20+20+10+45)
}

// P9.5: of schedules of one cost the first one is told: hour by hour, unit by unit, off is ahead of on.
func TestFirst(t *testing.T) {
	twin := free(0, 9, 4)
	wantBest(t, []api.Unit{twin, twin}, []int{0, 0}, noughts(2), hours("00", "00"), 0)
	wantBest(t, []api.Unit{twin, twin}, []int{5, 9}, noughts(2), hours("01", "01"), 56)
	wantBest(t, []api.Unit{twin, twin, twin}, []int{5, 10, 5}, noughts(3), hours("001", "011", "001"), 80)
	wantBest(t, []api.Unit{twin, twin, twin}, []int{10, 19, 5}, []int{8, 8, 9}, hours("011", "111", "011"), 136)
	late := free(0, 9, 0)
	late.Was, late.Start = -1, 7
	wantBest(t, []api.Unit{late}, []int{0, 0, 5}, noughts(3), hours("0", "0", "1"), 7)
	wantBest(t, []api.Unit{late}, []int{5, 0, 0}, noughts(3), hours("1", "0", "0"), 7)
	wantBest(t, []api.Unit{late}, []int{5, 0, 5}, noughts(3), hours("1", "1", "1"), 7)
	late.Start = 0
	wantBest(t, []api.Unit{late}, []int{5, 0, 5}, noughts(3), hours("1", "0", "1"), 0)
}

// P9.5: an hour ahead counts more than all that come after it.
func TestFirstHourCounts(t *testing.T) {
	early, late := free(0, 9, 0), free(0, 9, 0)
	early.Was, early.Start, early.Down = -3, 7, 3
	late.Was, late.Start, late.Down = -1, 7, 2
	// Both are needed in the second hour, of which late may be on not before it: early is off first, though on it would cost the same.
	wantBest(t, []api.Unit{early, late}, []int{0, 18}, noughts(2), hours("00", "11"), 14)
	wantBest(t, []api.Unit{late, early}, []int{0, 18}, noughts(2), hours("00", "11"), 14)
	// One of them has to be on in the first hour: just one can.
	wantBest(t, []api.Unit{early, late}, []int{1, 1, 0}, noughts(3), hours("10", "10", "00"), 7)
	wantBest(t, []api.Unit{late, early}, []int{1, 1, 0}, noughts(3), hours("01", "01", "00"), 7)
}

// P9.5: what is to be spare turns units on, though they generate nothing.
func TestBestSpare(t *testing.T) {
	l := []api.Unit{free(0, 20, 1), free(0, 30, 2)}
	l[1].Start, l[1].Was = 5, -1
	wantBest(t, l, []int{10, 10, 10}, []int{10, 10, 0}, hours("10", "10", "10"), 30)
	wantBest(t, l, []int{10, 10, 10}, []int{10, 11, 0}, hours("10", "11", "10"), 30+5)
	wantBest(t, l, []int{10, 10, 10}, []int{10, 21, 0}, hours("10", "11", "10"), 30+5)
	wantBest(t, l, []int{10, 10}, []int{10, 40}, hours("10", "11"), 10+10+5)
	noBest(t, l, []int{10, 10}, []int{10, 41}, api.ErrNone)
}

// P9.5: there is no schedule: too much or too little is needed, too much is to be spare, or it is too early.
func TestNone(t *testing.T) {
	l := []api.Unit{free(10, 20, 1), free(15, 30, 2)}
	for _, need := range []int{1, 9, 51, api.MaxUnits * api.MaxPower} {
		noBest(t, l, []int{20, need}, noughts(2), api.ErrNone)
		noBest(t, l, []int{need, 20}, noughts(2), api.ErrNone)
	}
	for _, spare := range []int{41, api.MaxUnits * api.MaxPower} {
		noBest(t, l, []int{20, 10}, []int{0, spare}, api.ErrNone)
	}
	wantBest(t, l, []int{30, 10}, []int{20, 10}, hours("11", "10"), 15+30+10)
	noBest(t, []api.Unit{stays(3, 3, -1), example()}, []int{51}, noughts(1), api.ErrNone)
	off, on := example(), example()
	off.Was, off.Down = -1, 3
	noBest(t, []api.Unit{off}, []int{0, 20}, noughts(2), api.ErrNone)
	wantBest(t, []api.Unit{off}, []int{0, 0, 20}, noughts(3), hours("0", "0", "1"), 140)
	on.Was, on.Up = 1, 3
	noBest(t, []api.Unit{on}, []int{20, 0}, noughts(2), api.ErrNone)
	wantBest(t, []api.Unit{on}, []int{20, 10, 0}, noughts(3), hours("1", "1", "0"), 60)
}

// P9.5: no hours, or no units.
func TestBestOfLittle(t *testing.T) {
	wantBest(t, nil, nil, nil, nil, 0)
	wantBest(t, []api.Unit{}, []int{}, []int{}, nil, 0)
	wantBest(t, []api.Unit{example(), example()}, nil, nil, nil, 0)
	wantBest(t, nil, noughts(3), noughts(3), hours("", "", ""), 0)
	noBest(t, nil, []int{0, 0, 1}, noughts(3), api.ErrNone)
	noBest(t, nil, noughts(3), []int{0, 1, 0}, api.ErrNone)
}

// P9.5: the greatest of all: units, hours, powers and costs.
func TestBestOfMost(t *testing.T) {
	l := greatest()
	full := slices.Repeat([]int{api.MaxUnits * api.MaxPower}, api.MaxHours)
	wantBest(t, l, full, noughts(8), slices.Repeat(hours("1111"), 8), api.MaxHours*api.MaxUnits*api.MaxPower*api.MaxCost+api.MaxUnits*api.MaxStart)
	wantBest(t, l, noughts(8), full, slices.Repeat(hours("1111"), 8), api.MaxUnits*api.MaxStart)
	noBest(t, l, full, append(noughts(7), 1), api.ErrNone)
	noBest(t, l, full, full, api.ErrNone)
	peak := append(noughts(7), 1)
	wantBest(t, l, peak, noughts(8), append(slices.Repeat(hours("0000"), 7), bits("0001")), api.MaxCost+api.MaxStart)
}

// wantDrawn: Best of what was drawn, held against another way.
func wantDrawn(t *testing.T, l []api.Unit, need, spare []int, other func([]api.Unit, []int, []int) ([][]bool, int, api.Errno)) api.Errno {
	t.Helper()
	want, cost, e := other(l, need, spare)
	if e == api.OK {
		wantBest(t, l, need, spare, want, cost)
	} else {
		noBest(t, l, need, spare, e)
	}
	return e
}

// P9.5: drawn units, held against all schedules there are.
func TestDrawnBest(t *testing.T) {
	d := rand.New(rand.NewPCG(9, 5))
	some := 0
	for range 1500 {
		l := drawnUnits(d, d.IntN(api.MaxUnits+1))
		n := d.IntN(min(api.MaxHours, 10/max(len(l), 1)) + 1)
		if wantDrawn(t, l, drawnPowers(d, n, 9*len(l)), drawnPowers(d, n, 3*len(l)), foremost) == api.OK && n > 0 {
			some++
		}
	}
	if some < 400 {
		t.Error("too few that can be:", some)
	}
}

// P9.5: as many drawn units and hours as may be, held against what is found hour by hour.
func TestDrawnLong(t *testing.T) {
	d := rand.New(rand.NewPCG(9, 6))
	some := 0
	for i := range 40 {
		l := drawnUnits(d, api.MaxUnits)
		for k := range l { // most that were drawn could not be for so long
			l[k].Least /= 4
		}
		if i%4 == 0 {
			l[1], l[2] = l[3], l[3]
		}
		if wantDrawn(t, l, drawnPowers(d, api.MaxHours, 25), drawnPowers(d, api.MaxHours, 6), forward) == api.OK {
			some++
		}
	}
	if some < 15 {
		t.Error("too few that can be:", some)
	}
}

// P9.5: no drawn schedule is cheaper than the best one, and none of its cost is ahead of it; where there is none, none is right.
func TestNoneCheaper(t *testing.T) {
	d := rand.New(rand.NewPCG(9, 7))
	right := 0
	for range 200 {
		l := drawnUnits(d, 1+d.IntN(api.MaxUnits))
		n := 1 + d.IntN(3)
		need, spare := drawnPowers(d, n, 20), drawnPowers(d, n, 4)
		best, least, e := commit.Best(l, need, spare)
		for range 300 {
			on := drawnOn(d, len(l), n)
			cost, f := commit.Value(l, need, spare, on)
			if f != api.OK {
				continue
			}
			right++
			if e != api.OK || cost < least || cost == least && ahead(on, best) {
				t.Fatalf("Best(%+v, %v, %v): %v, %d, %d; but %v costs %d", l, need, spare, best, least, e, on, cost)
			}
		}
	}
	if right < 500 {
		t.Error("too few schedules are right:", right)
	}
}

// ahead: whether one schedule is ahead of another.
func ahead(a, b [][]bool) bool {
	for h := range a {
		for i := range a[h] {
			if a[h][i] != b[h][i] {
				return b[h][i]
			}
		}
	}
	return false
}

// P9.5: what is told hangs on nothing else, nor on who else asks at the same time.
func TestAtOnce(t *testing.T) {
	d := rand.New(rand.NewPCG(9, 8))
	l := drawnUnits(d, api.MaxUnits)
	for i := range l {
		l[i].Least, l[i].Most = 0, 20+i
	}
	need, spare := drawnPowers(d, api.MaxHours, 20), noughts(api.MaxHours)
	l[0].Was, l[0].Up = 1, 3
	want, cost, e := commit.Best(l, need, spare)
	if e != api.OK {
		t.Fatal(e)
	}
	var all sync.WaitGroup
	told, costs := make([][][]bool, 20), make([]int, 20)
	for i := range told {
		all.Go(func() { told[i], costs[i], _ = commit.Best(l, need, spare) })
	}
	all.Wait()
	for i := range told {
		if !same(told[i], want) || costs[i] != cost {
			t.Fatalf("%v, %d; %v, %d is wanted", told[i], costs[i], want, cost)
		}
	}
}

// P9.5: what is answered is new memory, its hours apart from each other, and what is handed in stays as it is, its spare room too.
func TestBestOwnMemory(t *testing.T) {
	l := append(make([]api.Unit, 0, 6), example(), free(0, 40, 9))
	need, spare := append(make([]int, 0, 6), 20, 30, 30), append(make([]int, 0, 6), 1, 2, 3)
	want := hours("10", "10", "10")
	on, _, _ := commit.Best(l, need, spare)
	kept := apart(on)
	for h := range on {
		hour := on[h][:cap(on[h])]
		for i := range hour {
			hour[i] = !hour[i]
		}
		for k := range on {
			if k > h && !slices.Equal(on[k], kept[k]) {
				t.Error("hours share memory:", h, k)
			}
		}
	}
	clear(on[:cap(on)])
	wantBest(t, l, need, spare, want, 100+160)
	if !slices.Equal(l[:6], append([]api.Unit{example(), free(0, 40, 9)}, make([]api.Unit, 4)...)) ||
		!slices.Equal(need[:6], []int{20, 30, 30, 0, 0, 0}) || !slices.Equal(spare[:6], []int{1, 2, 3, 0, 0, 0}) {
		t.Error(l[:6], need[:6], spare[:6])
	}
}
