package commit

import (
	"cmp"
	"slices"

	"gridworks/api"
)

// all: does this hold for each of a list?
func all[T any](l []T, holds func(T) bool) bool {
	for _, x := range l {
		if !holds(x) {
			return false
		}
	}
	return true
}

// within: is it from least to most?
func within(x, least, most int) bool { return least <= x && x <= most }

func mayBe(u api.Unit) bool {
	return within(u.Least, 0, u.Most) && u.Most <= api.MaxPower &&
		within(u.Cost, 0, api.MaxCost) && within(u.Start, 0, api.MaxStart) &&
		within(u.Up, 1, api.MaxStay) && within(u.Down, 1, api.MaxStay) &&
		within(u.Was, -api.MaxWas, api.MaxWas) && u.Was != 0
}

// mayBeAsked: as much as this may be needed, or be spare.
func mayBeAsked(power int) bool { return within(power, 0, api.MaxUnits*api.MaxPower) }

// stand: of each unit for how many hours it has been on (above 0) or off (below 0). It counts no further than MaxStay, so that what can't make a difference is not told apart.
type stand [api.MaxUnits]int

// fleet: units that may be.
type fleet struct {
	units []api.Unit
	ranks []int // their places, in the order in which they are asked for more
}

func gather(l []api.Unit) fleet {
	f := fleet{units: l}
	for i := range l {
		f.ranks = append(f.ranks, i)
	}
	slices.SortStableFunc(f.ranks, func(a, b int) int { return cmp.Compare(l[a].Cost, l[b].Cost) })
	return f
}

// merit: what each unit generates.
func (f fleet) merit(on []bool, need int) ([]int, api.Errno) {
	power := make([]int, len(f.units))
	for i, u := range f.units {
		if on[i] {
			power[i] = u.Least
			need -= u.Least
		}
	}
	if need < 0 {
		return nil, api.ErrSum
	}
	for _, i := range f.ranks {
		if on[i] {
			more := min(need, f.units[i].Most-power[i])
			power[i] += more
			need -= more
		}
	}
	if need > 0 {
		return nil, api.ErrSum
	}
	return power, api.OK
}

// run: what an hour costs, without what is turned on in it.
func (f fleet) run(on []bool, need, spare int) (int, api.Errno) {
	power, e := f.merit(on, need)
	if e != api.OK || f.most(on) < need+spare {
		return 0, api.ErrSum
	}
	cost := 0
	for i, u := range f.units {
		cost += power[i] * u.Cost
	}
	return cost, api.OK
}

// most that can be generated.
func (f fleet) most(on []bool) int {
	sum := 0
	for i, u := range f.units {
		if on[i] {
			sum += u.Most
		}
	}
	return sum
}

// before the first hour.
func (f fleet) before() stand {
	var s stand
	for i, u := range f.units {
		s[i] = min(max(u.Was, -api.MaxStay), api.MaxStay)
	}
	return s
}

// turn: how units that stood so stand after an hour, and what it costs to turn them on.
func (f fleet) turn(s stand, on []bool) (stand, int, api.Errno) {
	cost := 0
	for i, u := range f.units {
		switch {
		case on[i] && s[i] > 0:
			s[i] = min(s[i]+1, api.MaxStay)
		case on[i]:
			if -s[i] < u.Down {
				return stand{}, 0, api.ErrShut
			}
			s[i] = 1
			cost += u.Start
		case s[i] > 0:
			if s[i] < u.Up {
				return stand{}, 0, api.ErrShut
			}
			s[i] = -1
		default:
			s[i] = max(s[i]-1, -api.MaxStay)
		}
	}
	return s, cost, api.OK
}
