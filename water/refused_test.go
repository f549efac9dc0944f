package water_test

import (
	"math"
	"slices"
	"testing"

	"gridworks/api"
)

// noEither: both refuse such lakes and inflows, whatever else is right.
func noEither(t *testing.T, l []api.Lake, inflow [][]int, want api.Errno) {
	t.Helper()
	noRun(t, l, inflow, still(len(inflow), len(l)), want)
	noBest(t, l, inflow, make([]int, len(inflow)), make([]int, len(l)), want)
}

// P13.3, P13.4: too many lakes or hours.
func TestTooMany(t *testing.T) {
	three := slices.Repeat([]api.Lake{example()}, api.MaxLakes+1)
	noEither(t, three, nil, api.ErrSize)
	noEither(t, three, still(2, 3), api.ErrSize)
	noEither(t, slices.Repeat(three, 1000), nil, api.ErrSize)
	noEither(t, pair(), still(api.MaxHours+1, 2), api.ErrSize)
	noEither(t, nil, still(api.MaxHours+1, 0), api.ErrSize)
	noEither(t, nil, still(5000, 0), api.ErrSize)
	noRun(t, pair(), still(api.MaxHours, 2), still(api.MaxHours+1, 2), api.ErrSize)
	noRun(t, pair(), still(api.MaxHours+1, 2), still(api.MaxHours, 2), api.ErrSize)
}

// P13.3, P13.4: lists that do not tell of as many.
func TestNotAsMany(t *testing.T) {
	l, two := pair(), still(2, 2)
	for _, wrong := range [][][]int{nil, still(1, 2), still(3, 2), still(2, 0), still(2, 1), still(2, 3), rows([]int{0, 0}, nil), rows([]int{0}, []int{0, 0}), rows([]int{0, 0}, []int{0, 0, 0})} {
		noRun(t, l, wrong, two, api.ErrSize)
		noRun(t, l, two, wrong, api.ErrSize)
		noBest(t, l, wrong, []int{0, 0}, []int{0, 0}, api.ErrSize)
	}
	noEither(t, l, still(2, 1), api.ErrSize)
	noEither(t, nil, still(2, 1), api.ErrSize)
	noEither(t, l[:1], still(2, 0), api.ErrSize)
	for _, wrong := range [][]int{nil, {0}, {0, 0, 0}, make([]int, api.MaxHours+1)} {
		noBest(t, l, two, wrong, []int{0, 0}, api.ErrSize)
		noBest(t, l, two, []int{0, 0}, wrong, api.ErrSize)
	}
	noBest(t, l, nil, []int{0}, []int{0, 0}, api.ErrSize)
	noBest(t, nil, nil, nil, []int{0}, api.ErrSize)
}

// wrongLakes: each is just beyond what a lake may be, or far.
func wrongLakes() []api.Lake {
	return []api.Lake{
		{Least: -1, Most: 9, Start: 3},
		{Least: math.MinInt, Most: 9, Start: 3},
		{Least: 4, Most: 9, Start: 3},
		{Least: 10, Most: 9, Start: 10},
		{Most: 9, Start: 10},
		{Most: 9, Start: -1},
		{Most: -1},
		{Least: -2, Most: -1, Start: -1},
		{Most: api.MaxWater + 1, Start: 3},
		{Most: math.MaxInt, Start: 3},
		{Least: math.MaxInt, Most: math.MaxInt, Start: math.MaxInt},
		{Most: 9, Turbine: -1},
		{Most: 9, Turbine: api.MaxRelease + 1},
		{Most: 9, Turbine: math.MinInt},
		{Most: 9, Worth: -1},
		{Most: 9, Worth: api.MaxWorths + 1},
		{Most: 9, Worth: math.MaxInt},
	}
}

// P13.1: a lake that may not be.
func TestMayNotBe(t *testing.T) {
	for _, k := range wrongLakes() {
		noEither(t, []api.Lake{k}, nil, api.ErrState)
		noEither(t, []api.Lake{k}, each(0, 1), api.ErrState)
		noEither(t, []api.Lake{k, example()}, still(1, 2), api.ErrState)
		noEither(t, []api.Lake{example(), k}, still(1, 2), api.ErrState)
	}
}

// P13.1: lakes that just may be.
func TestJustMayBe(t *testing.T) {
	for _, k := range []api.Lake{
		{},
		{Most: api.MaxWater},
		{Most: api.MaxWater, Start: api.MaxWater},
		{Least: api.MaxWater, Most: api.MaxWater, Start: api.MaxWater},
		{Least: 3, Most: 3, Start: 3, Turbine: api.MaxRelease, Worth: api.MaxWorths},
	} {
		wantRun(t, []api.Lake{k}, each(0), each(0), each(k.Start), each(0))
		wantBest(t, []api.Lake{k}, each(0), []int{0}, []int{1}, each(0), k.Start)
	}
}

// P13.3, P13.4: an inflow that may not be, in any hour, to any lake.
func TestInflowBeyond(t *testing.T) {
	for _, x := range []int{-1, api.MaxInflow + 1, math.MinInt, math.MaxInt} {
		noEither(t, []api.Lake{example()}, each(x), api.ErrRange)
		noEither(t, []api.Lake{example()}, each(0, 0, x), api.ErrRange)
		noEither(t, pair(), rows([]int{0, 0}, []int{x, 0}), api.ErrRange)
		noEither(t, pair(), rows([]int{0, x}, []int{0, 0}), api.ErrRange)
	}
	k := api.Lake{Most: api.MaxWater}
	wantRun(t, []api.Lake{k}, each(api.MaxInflow, 0), each(0, 0), each(10, 10), each(0, 0))
	wantBest(t, []api.Lake{k}, each(api.MaxInflow, 0), []int{0, 0}, []int{1}, each(0, 0), 10)
}

// P13.4: a price, or what water is worth at last, that may not be.
func TestWorthBeyond(t *testing.T) {
	for _, x := range []int{-1, api.MaxWorths + 1, math.MinInt, math.MaxInt} {
		noBest(t, pair(), still(2, 2), []int{x, 0}, []int{0, 0}, api.ErrRange)
		noBest(t, pair(), still(2, 2), []int{0, x}, []int{0, 0}, api.ErrRange)
		noBest(t, pair(), still(2, 2), []int{0, 0}, []int{x, 0}, api.ErrRange)
		noBest(t, pair(), still(2, 2), []int{0, 0}, []int{0, x}, api.ErrRange)
		noBest(t, pair(), nil, nil, []int{0, x}, api.ErrRange)
		noBest(t, nil, still(1, 0), []int{x}, nil, api.ErrRange)
	}
}

// P13.3, P13.4: of several that apply the one that is named first.
func TestWhichFirst(t *testing.T) {
	wrong := []api.Lake{{Most: -1}}
	noRun(t, wrong, each(-1), each(9, 9), api.ErrSize)
	noRun(t, wrong, each(-1), each(9), api.ErrState)
	noRun(t, []api.Lake{example()}, each(0, -1), each(9, 0), api.ErrRange)
	noRun(t, []api.Lake{example()}, each(0, 1), each(9, 0), api.ErrShut)
	noBest(t, wrong, each(-1), []int{-1}, []int{-1, 0}, api.ErrSize)
	noBest(t, wrong, each(-1), []int{-1, 0}, []int{-1}, api.ErrSize)
	noBest(t, wrong, each(-1), []int{0}, []int{0}, api.ErrState)
	noBest(t, wrong, each(0), []int{-1}, []int{0}, api.ErrState)
	noBest(t, wrong, each(0), []int{0}, []int{-1}, api.ErrState)
}
