package commit_test

import (
	"math"
	"slices"
	"testing"

	"gridworks/api"
)

// bend a unit.
func bend(f func(u *api.Unit)) api.Unit {
	u := example()
	f(&u)
	return u
}

// bent: units that may not be.
func bent() []api.Unit {
	return []api.Unit{
		{},
		bend(func(u *api.Unit) { u.Least = -1 }),
		bend(func(u *api.Unit) { u.Least = 51 }),
		bend(func(u *api.Unit) { u.Least, u.Most = 0, -1 }),
		bend(func(u *api.Unit) { u.Least, u.Most = -2, -1 }),
		bend(func(u *api.Unit) { u.Most = api.MaxPower + 1 }),
		bend(func(u *api.Unit) { u.Least, u.Most = api.MaxPower+1, api.MaxPower+1 }),
		bend(func(u *api.Unit) { u.Least = math.MinInt }),
		bend(func(u *api.Unit) { u.Most = math.MaxInt }),
		bend(func(u *api.Unit) { u.Cost = -1 }),
		bend(func(u *api.Unit) { u.Cost = api.MaxCost + 1 }),
		bend(func(u *api.Unit) { u.Cost = math.MinInt }),
		bend(func(u *api.Unit) { u.Start = -1 }),
		bend(func(u *api.Unit) { u.Start = api.MaxStart + 1 }),
		bend(func(u *api.Unit) { u.Start = math.MaxInt }),
		bend(func(u *api.Unit) { u.Up = 0 }),
		bend(func(u *api.Unit) { u.Up = -1 }),
		bend(func(u *api.Unit) { u.Up = api.MaxStay + 1 }),
		bend(func(u *api.Unit) { u.Down = 0 }),
		bend(func(u *api.Unit) { u.Down = math.MinInt }),
		bend(func(u *api.Unit) { u.Down = api.MaxStay + 1 }),
		bend(func(u *api.Unit) { u.Was = 0 }),
		bend(func(u *api.Unit) { u.Was = api.MaxWas + 1 }),
		bend(func(u *api.Unit) { u.Was = -api.MaxWas - 1 }),
		bend(func(u *api.Unit) { u.Was = math.MinInt }),
	}
}

// straight: units at the edges of what may be.
func straight() []api.Unit {
	return []api.Unit{
		bend(func(u *api.Unit) { u.Least = 0 }),
		bend(func(u *api.Unit) { u.Least = 50 }),
		bend(func(u *api.Unit) { u.Least, u.Most = 0, 0 }),
		bend(func(u *api.Unit) { u.Most = api.MaxPower }),
		bend(func(u *api.Unit) { u.Least, u.Most = api.MaxPower, api.MaxPower }),
		bend(func(u *api.Unit) { u.Cost = 0 }),
		bend(func(u *api.Unit) { u.Cost = api.MaxCost }),
		bend(func(u *api.Unit) { u.Start = 0 }),
		bend(func(u *api.Unit) { u.Start = api.MaxStart }),
		bend(func(u *api.Unit) { u.Up = 1 }),
		bend(func(u *api.Unit) { u.Up = api.MaxStay }),
		bend(func(u *api.Unit) { u.Down = 1 }),
		bend(func(u *api.Unit) { u.Down = api.MaxStay }),
		bend(func(u *api.Unit) { u.Was = 1 }),
		bend(func(u *api.Unit) { u.Was = -1 }),
		bend(func(u *api.Unit) { u.Was = api.MaxWas }),
		bend(func(u *api.Unit) { u.Was = -api.MaxWas }),
	}
}

// outside: what may not be needed, nor be spare.
func outside() []int {
	return []int{-1, math.MinInt, api.MaxUnits*api.MaxPower + 1, math.MaxInt}
}

// P9.1: which units may be, and which may not, at each place of a list.
func TestMayBe(t *testing.T) {
	for _, u := range straight() {
		wantMerit(t, []api.Unit{u}, "1", u.Least, u.Least)
		wantValue(t, []api.Unit{u}, nil, nil, nil, 0)
		wantBest(t, []api.Unit{u}, nil, nil, nil, 0)
	}
	for _, u := range bent() {
		for place := range api.MaxUnits {
			l := slices.Repeat([]api.Unit{example()}, api.MaxUnits)
			l[place] = u
			noMerit(t, l, bits("0000"), 0, api.ErrState)
			noValue(t, l, noughts(1), noughts(1), hours("0000"), api.ErrState)
			noValue(t, l, nil, nil, nil, api.ErrState)
			noBest(t, l, noughts(1), noughts(1), api.ErrState)
			noBest(t, l, nil, nil, api.ErrState)
		}
	}
}

// P9.2: sizes ahead of units, units ahead of what is needed, that ahead of sums.
func TestMeritRefused(t *testing.T) {
	five := slices.Repeat([]api.Unit{example()}, api.MaxUnits+1)
	noMerit(t, five, bits("00000"), 0, api.ErrSize)
	noMerit(t, five, bits("0000"), 0, api.ErrSize)
	l := five[:2]
	for _, on := range [][]bool{nil, bits("0"), bits("000"), bits("11111")} {
		noMerit(t, l, on, 0, api.ErrSize)
		noMerit(t, l, on, -1, api.ErrSize)
		noMerit(t, []api.Unit{{}, {}}, on, -1, api.ErrSize)
	}
	noMerit(t, nil, bits("0"), 0, api.ErrSize)
	noMerit(t, make([]api.Unit, 5), bits("00000"), 0, api.ErrSize)
	for _, need := range outside() {
		noMerit(t, l, bits("11"), need, api.ErrRange)
		noMerit(t, l, bits("00"), need, api.ErrRange)
		noMerit(t, nil, nil, need, api.ErrRange)
		noMerit(t, []api.Unit{example(), {}}, bits("00"), need, api.ErrState)
	}
	noMerit(t, l, bits("00"), api.MaxUnits*api.MaxPower, api.ErrSum)
}

// P9.4 and P9.5: too many units or hours, or unlike lists, whatever else is wrong.
func TestSizes(t *testing.T) {
	for _, u := range []api.Unit{example(), {}} {
		for _, x := range []int{0, -1} {
			l := slices.Repeat([]api.Unit{u}, api.MaxUnits+1)
			powers := func(n int) []int { return slices.Repeat([]int{x}, n) }
			noValue(t, l, powers(2), powers(2), hours("00000", "00000"), api.ErrSize)
			noValue(t, l, nil, nil, nil, api.ErrSize)
			noBest(t, l, powers(2), powers(2), api.ErrSize)
			noBest(t, l, nil, nil, api.ErrSize)
			l = l[:1]
			noValue(t, l, powers(9), powers(9), slices.Repeat(hours("0"), 9), api.ErrSize)
			noBest(t, l, powers(9), powers(9), api.ErrSize)
			noBest(t, nil, powers(9), powers(9), api.ErrSize)
			for _, k := range [][3]int{{1, 2, 2}, {2, 1, 2}, {2, 2, 1}, {0, 1, 1}, {1, 0, 1}, {1, 1, 0}, {2, 3, 3}, {8, 9, 8}, {8, 8, 9}} {
				noValue(t, l, powers(k[0]), powers(k[1]), slices.Repeat(hours("0"), k[2]), api.ErrSize)
				if k[0] != k[1] {
					noBest(t, l, powers(k[0]), powers(k[1]), api.ErrSize)
				}
			}
			for _, on := range [][][]bool{hours("", "0"), hours("0", ""), hours("00", "0"), hours("0", "00"), {nil, nil}, hours("1", "11")} {
				noValue(t, l, powers(2), powers(2), on, api.ErrSize)
			}
			noValue(t, nil, powers(1), powers(1), hours("0"), api.ErrSize)
		}
	}
}

// P9.4 and P9.5: what is needed, or spare, is out of range, in whichever hour, whatever it would lead to.
func TestRanges(t *testing.T) {
	l, tooEarly := []api.Unit{example()}, hours("1", "0", "1")
	for _, x := range outside() {
		for h := range 3 {
			powers := []int{0, 60, 0}
			powers[h] = x
			noValue(t, l, powers, noughts(3), tooEarly, api.ErrRange)
			noValue(t, l, noughts(3), powers, tooEarly, api.ErrRange)
			noValue(t, nil, powers, noughts(3), hours("", "", ""), api.ErrRange)
			noBest(t, l, powers, noughts(3), api.ErrRange)
			noBest(t, l, noughts(3), powers, api.ErrRange)
			noBest(t, nil, noughts(3), powers, api.ErrRange)
			noValue(t, []api.Unit{{}}, powers, noughts(3), tooEarly, api.ErrState)
			noBest(t, []api.Unit{{}}, noughts(3), powers, api.ErrState)
		}
	}
	top := []int{api.MaxUnits * api.MaxPower}
	noValue(t, l, top, top, hours("1"), api.ErrSum)
	noBest(t, l, top, top, api.ErrNone)
}
