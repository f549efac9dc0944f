package water

import "gridworks/api"

// all: does this hold for each of a list?
func all[T any](l []T, holds func(T) bool) bool {
	for _, x := range l {
		if !holds(x) {
			return false
		}
	}
	return true
}

// within: is it from least to most?
func within(x, least, most int) bool { return least <= x && x <= most }

// sized: whether there are neither too many lakes nor hours, and each hour tells of all lakes.
func sized(l []api.Lake, hours [][]int) bool {
	tellsAll := func(hour []int) bool { return len(hour) == len(l) }
	return len(l) <= api.MaxLakes && len(hours) <= api.MaxHours && all(hours, tellsAll)
}

func mayBe(k api.Lake) bool {
	return within(k.Least, 0, k.Start) && within(k.Most, k.Start, api.MaxWater) &&
		within(k.Turbine, 0, api.MaxRelease) && mayBeWorth(k.Worth)
}

func mayBeWorth(x int) bool { return within(x, 0, api.MaxWorths) }

// mayCome: whether each inflow is one that may be.
func mayCome(inflow [][]int) bool {
	one := func(x int) bool { return within(x, 0, api.MaxInflow) }
	return all(inflow, func(hour []int) bool { return all(hour, one) })
}

// row: a number of each lake, 0 of those that are not there.
type row [api.MaxLakes]int

// list of the numbers of so many lakes, in memory of its own.
func (r row) list(lakes int) []int { return append(make([]int, 0, lakes), r[:lakes]...) }

// stand between two hours: how much is in each lake, and how much is on its way to it.
type stand struct{ level, way row }

// chain: lakes that may be, and what comes to them.
type chain struct {
	lakes  []api.Lake
	inflow [][]int
}

// start: ahead of the first hour, when nothing is on its way.
func (c chain) start() (s stand) {
	for i, k := range c.lakes {
		s.level[i] = k.Start
	}
	return s
}

// fill: how much is in each lake when all has come that comes in an hour.
func (c chain) fill(s stand, hour int) row {
	for i, more := range c.inflow[hour] {
		s.level[i] += more + s.way[i]
	}
	return s.level
}

// free: how much may be released of what is in the lakes. It is never below 0, as no lake is below Least ahead of an hour.
func (c chain) free(full row) (most row) {
	for i, k := range c.lakes {
		most[i] = min(k.Turbine, full[i]-k.Least)
	}
	return most
}

// drain: what is released leaves, and then what is above Most, which spills. Both are on their way to the next lake; behind the last one there is none.
func (c chain) drain(full, release row) (s stand, spilled row) {
	for i, k := range c.lakes {
		left := full[i] - release[i]
		s.level[i] = min(left, k.Most)
		spilled[i] = left - s.level[i]
		if i+1 < len(c.lakes) {
			s.way[i+1] = release[i] + spilled[i]
		}
	}
	return s, spilled
}

// run: hour by hour, how much is in each lake then, and what spilled.
func (c chain) run(release [][]int) (levels, spilled [][]int, e api.Errno) {
	s, lakes := c.start(), len(c.lakes)
	for h := range release {
		full := c.fill(s, h)
		asked, ok := ask(release[h], c.free(full))
		if !ok {
			return nil, nil, api.ErrShut
		}
		var over row
		s, over = c.drain(full, asked)
		levels, spilled = append(levels, s.level.list(lakes)), append(spilled, over.list(lakes))
	}
	return levels, spilled, api.OK
}

// ask for releases; not ok: one of them is below 0, or more than is free.
func ask(l []int, free row) (asked row, ok bool) {
	for i, x := range l {
		if !within(x, 0, free[i]) {
			return row{}, false
		}
		asked[i] = x
	}
	return asked, true
}
