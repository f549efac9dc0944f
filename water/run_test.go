package water_test

import (
	"math"
	"math/rand/v2"
	"slices"
	"sync"
	"testing"

	"gridworks/api"
	"gridworks/water"
)

// P13.3: the chapter's example: the level is the one behind the hour.
func TestRun(t *testing.T) {
	l := []api.Lake{example()}
	wantRun(t, l, each(0, 4), each(2, 2), each(1, 3), each(0, 0))
	wantRun(t, l, each(0, 4), each(0, 0), each(3, 5), each(0, 2))
	wantRun(t, l, each(0, 4), each(1, 0), each(2, 5), each(0, 1))
	wantRun(t, l, each(0, 4), each(1, 1), each(2, 5), each(0, 0))
}

// P13.2: what comes in an hour may be released in it.
func TestComesThenLeaves(t *testing.T) {
	l := []api.Lake{{Most: 5, Turbine: 3}}
	wantRun(t, l, each(3, 1, 0), each(3, 1, 0), each(0, 0, 0), each(0, 0, 0))
	noRun(t, l, each(2, 9), each(3, 0), api.ErrShut)
	wantRun(t, l, each(2, 9), each(2, 3), each(0, 5), each(0, 1))
}

// P13.2: what is released leaves ahead of what spills, so that it makes room.
func TestReleasedThenSpilled(t *testing.T) {
	l := []api.Lake{{Most: 5, Start: 5, Turbine: 3}}
	for r := range 4 {
		wantRun(t, l, each(3), each(r), each(5), each(3-r))
		wantRun(t, l, each(2), each(r), each(min(7-r, 5)), each(max(2-r, 0)))
	}
}

// P13.2: what leaves a lake comes to the next one in the next hour, released or spilled; in the first hour nothing comes from above.
func TestOnItsWay(t *testing.T) {
	l := []api.Lake{{Most: 4, Start: 4, Turbine: 2}, {Most: 9, Turbine: 4}}
	wantRun(t, l, still(3, 2), rows([]int{2, 0}, []int{1, 0}, []int{0, 0}), rows([]int{2, 0}, []int{1, 2}, []int{1, 3}), still(3, 2))
	wantRun(t, l, rows([]int{5, 1}, []int{0, 1}, []int{0, 0}), still(3, 2), rows([]int{4, 1}, []int{4, 7}, []int{4, 7}), rows([]int{5, 0}, []int{0, 0}, []int{0, 0}))
	wantRun(t, l, rows([]int{5, 1}, []int{0, 1}, []int{0, 0}), rows([]int{2, 0}, []int{0, 4}, []int{0, 3}), rows([]int{4, 1}, []int{4, 3}, []int{4, 0}), rows([]int{3, 0}, []int{0, 0}, []int{0, 0}))
	wantRun(t, l, rows([]int{10, 0}, []int{0, 3}, []int{0, 0}), still(3, 2), rows([]int{4, 0}, []int{4, 9}, []int{4, 9}), rows([]int{10, 0}, []int{0, 4}, []int{0, 0}))
	noRun(t, l, still(2, 2), rows([]int{2, 1}, []int{0, 0}), api.ErrShut) // not in the same hour
	noRun(t, l, still(2, 2), rows([]int{2, 0}, []int{0, 3}), api.ErrShut)
}

// P13.2: what leaves the last lake is gone: nothing comes of it to the first one.
func TestGone(t *testing.T) {
	l := []api.Lake{{Most: 9, Turbine: 4}, {Most: 3, Start: 3, Turbine: 2}}
	wantRun(t, l, rows([]int{0, 4}, []int{0, 0}, []int{0, 0}), rows([]int{0, 2}, []int{0, 2}, []int{0, 1}), rows([]int{0, 3}, []int{0, 1}, []int{0, 0}), rows([]int{0, 2}, []int{0, 0}, []int{0, 0}))
	one := []api.Lake{{Most: 3, Start: 3, Turbine: 2}}
	wantRun(t, one, each(4, 0, 0), each(2, 2, 1), each(3, 1, 0), each(2, 0, 0))
}

// P13.2, P13.3: a release is from 0 to Turbine, and Least is left.
func TestShut(t *testing.T) {
	l := []api.Lake{{Least: 2, Most: 9, Start: 5, Turbine: 2}, {Least: 1, Most: 9, Start: 3, Turbine: 4}}
	wantRun(t, l, still(1, 2), rows([]int{2, 2}), rows([]int{3, 1}), still(1, 2))
	wantRun(t, l, still(2, 2), rows([]int{2, 2}, []int{1, 2}), rows([]int{3, 1}, []int{2, 1}), still(2, 2))
	for _, r := range []int{-1, 3, 4, 5, math.MinInt, math.MaxInt} {
		noRun(t, l, still(1, 2), rows([]int{r, 0}), api.ErrShut)
		noRun(t, l, still(1, 2), rows([]int{0, r}), api.ErrShut)
		noRun(t, l, still(2, 2), rows([]int{2, 2}, []int{r, 0}), api.ErrShut)
	}
	noRun(t, l, still(2, 2), rows([]int{2, 0}, []int{2, 0}), api.ErrShut) // 1 would be left
	noRun(t, l, rows([]int{0, 9}), rows([]int{0, 5}), api.ErrShut)
	wantRun(t, l, rows([]int{0, 9}), rows([]int{0, 4}), rows([]int{5, 8}), still(1, 2))
	l[0].Turbine = 0
	noRun(t, l, still(1, 2), rows([]int{1, 0}), api.ErrShut)
	wantRun(t, l, rows([]int{9, 0}), rows([]int{0, 0}), rows([]int{9, 3}), rows([]int{5, 0}))
}

// P13.2: a lake in which nothing more has room, and one that has to stay as it is.
func TestFull(t *testing.T) {
	for _, level := range []int{0, 1, api.MaxWater} {
		l := []api.Lake{{Least: level, Most: level, Start: level, Turbine: 4}}
		wantRun(t, l, each(0, 10, 3), each(0, 4, 3), each(level, level, level), each(0, 6, 0))
		noRun(t, l, each(0), each(1), api.ErrShut)
	}
}

// P13.3: no hours, or no lakes.
func TestRunOfLittle(t *testing.T) {
	wantRun(t, nil, nil, nil, nil, nil)
	wantRun(t, []api.Lake{}, [][]int{}, [][]int{}, nil, nil)
	wantRun(t, pair(), nil, [][]int{}, nil, nil)
	wantRun(t, nil, still(3, 0), rows(nil, []int{}, nil), still(3, 0), still(3, 0))
}

// P13.3: the greatest of all.
func TestRunOfMost(t *testing.T) {
	l := greatest()
	levels, spilled := always(8, 20, 20), append(rows([]int{6, 6}), always(7, 6, 16)...)
	wantRun(t, l, always(8, 10, 10), always(8, 4, 4), levels, spilled)
	spilled = append(rows([]int{10, 10}), always(7, 10, 20)...)
	wantRun(t, l, always(8, 10, 10), still(8, 2), levels, spilled)
}

// P13.3: drawn lakes, held against what comes of it drop by drop; what a release may not be is refused.
func TestDrawnRun(t *testing.T) {
	d := rand.New(rand.NewPCG(13, 3))
	right, shut := 0, 0
	for range 20000 {
		l := drawnLakes(d, d.IntN(api.MaxLakes+1), 3+d.IntN(api.MaxWater-2))
		n := d.IntN(api.MaxHours + 1)
		inflow, release := drawnRows(d, n, len(l), d.IntN(api.MaxInflow+1)), drawnRows(d, n, len(l), d.IntN(3))
		levels, spilled, e := poured(l, inflow, release)
		if e != api.OK {
			shut++
			noRun(t, l, inflow, release, e)
			continue
		}
		right++
		wantRun(t, l, inflow, release, levels, spilled)
	}
	if right < 3000 || shut < 3000 {
		t.Error("too few:", right, shut)
	}
}

// What comes of it: all water is in a lake, on its way or gone, to the last drop, and no lake is below Least or above Most.
func TestToTheLastDrop(t *testing.T) {
	d := rand.New(rand.NewPCG(13, 4))
	for range 3000 {
		l := drawnLakes(d, 1+d.IntN(api.MaxLakes), 3+d.IntN(api.MaxWater-2))
		n := 1 + d.IntN(api.MaxHours)
		inflow := drawnRows(d, n, len(l), d.IntN(api.MaxInflow+1))
		release, _, e := water.Best(l, inflow, drawnNumbers(d, n, 9), drawnNumbers(d, len(l), 9))
		levels, spilled, f := water.Run(l, inflow, release)
		if e != api.OK || f != api.OK {
			t.Fatal(l, inflow, e, f)
		}
		come, gone := 0, 0
		for _, k := range l {
			come += k.Start
		}
		for h := range levels {
			there := 0
			for i, k := range l {
				come += inflow[h][i]
				there += levels[h][i]
				if levels[h][i] < k.Least || levels[h][i] > k.Most || spilled[h][i] < 0 {
					t.Fatal(l, inflow, release, levels, spilled)
				}
				left := release[h][i] + spilled[h][i]
				if i == len(l)-1 {
					gone += left
				} else {
					there += left // on its way
				}
			}
			if come != there+gone {
				t.Fatalf("%+v, %v, %v: hour %d: %d came, %d are there, %d gone", l, inflow, release, h, come, there, gone)
			}
		}
	}
}

// P13.3: an hour hangs on what was ahead of it alone, so that a shorter run is the beginning of a longer one.
func TestShorter(t *testing.T) {
	l := pair()
	inflow, release := rows([]int{9, 1}, []int{3, 0}, []int{0, 9}), rows([]int{3, 1}, []int{0, 4}, []int{2, 2})
	levels, spilled, e := water.Run(l, inflow, release)
	if e != api.OK {
		t.Fatal(e)
	}
	for n := range 3 {
		wantRun(t, l, inflow[:n], release[:n], levels[:n], spilled[:n])
	}
}

// P13.3: what is told hangs on nothing else, nor on who else asks at the same time.
func TestRunAtOnce(t *testing.T) {
	l, inflow, release := greatest(), always(8, 7, 3), always(8, 2, 4)
	levels, spilled, _ := water.Run(l, inflow, release)
	var all sync.WaitGroup
	for range 20 {
		all.Go(func() { wantRun(t, l, inflow, release, levels, spilled) })
	}
	all.Wait()
}

// P13.3: what is answered is new memory, its lists apart from each other, and what is handed in stays as it is, its spare room too.
func TestRunOwnMemory(t *testing.T) {
	l, keptLakes := roomy(api.Lake{Most: 7}, pair()...)
	inflow, keptIn := roomyRows([]int{9, 1}, []int{9, 0}, []int{0, 9})
	release, keptOut := roomyRows([]int{3, 1}, []int{0, 4}, []int{2, 2})
	levels, spilled, _ := water.Run(l, inflow, release)
	wantApart(t, slices.Concat(levels, spilled))
	fill(levels, nil)
	if slices.ContainsFunc(spilled, func(hour []int) bool { return hour == nil }) {
		t.Error("levels share memory with what spilled")
	}
	fill(spilled, nil)
	wantKept(t, l, keptLakes)
	wantRowsKept(t, inflow, keptIn)
	wantRowsKept(t, release, keptOut)
	wantRun(t, l, inflow, release, rows([]int{9, 2}, []int{9, 2}, []int{7, 9}), rows([]int{1, 0}, []int{9, 0}, []int{0, 9}))
}
