package commit_test

import (
	"math/rand/v2"
	"slices"
	"testing"

	"gridworks/api"
	"gridworks/commit"
)

// example: the chapter's unit.
func example() api.Unit {
	return api.Unit{Least: 10, Most: 50, Cost: 2, Start: 100, Up: 2, Down: 1, Was: -3}
}

// free: a unit of this Least, Most and Cost that may be turned on or off at any time, at no cost; it has been on.
func free(least, most, cost int) api.Unit {
	return api.Unit{Least: least, Most: most, Cost: cost, Up: 1, Down: 1, Was: 1}
}

// stays: a unit that generates nothing; only its times count.
func stays(up, down, was int) api.Unit {
	return api.Unit{Up: up, Down: down, Was: was}
}

// noughts: nothing is needed (or spare), for so many hours.
func noughts(hours int) []int { return make([]int, hours) }

// bits: which are on, by a text: 1 is on.
func bits(s string) []bool {
	l := make([]bool, len(s))
	for i := range s {
		l[i] = s[i] == '1'
	}
	return l
}

// hours of a schedule, each by a text.
func hours(l ...string) [][]bool {
	on := make([][]bool, len(l))
	for i, s := range l {
		on[i] = bits(s)
	}
	return on
}

// apart: a schedule in memory of its own.
func apart(on [][]bool) [][]bool {
	l := slices.Clone(on)
	for h := range l {
		l[h] = slices.Clone(l[h])
	}
	return l
}

func same(a, b [][]bool) bool { return slices.EqualFunc(a, b, slices.Equal) }

func wantMerit(t *testing.T, l []api.Unit, on string, need int, want ...int) {
	t.Helper()
	if power, e := commit.Merit(l, bits(on), need); !slices.Equal(power, want) || e != api.OK {
		t.Errorf("Merit(%+v, %s, %d): %v, %d; %v is wanted", l, on, need, power, e, want)
	}
}

// noMerit: whether Merit refuses like this, with nothing beside it.
func noMerit(t *testing.T, l []api.Unit, on []bool, need int, want api.Errno) {
	t.Helper()
	if power, e := commit.Merit(l, on, need); len(power) > 0 || e != want {
		t.Errorf("Merit(%+v, %v, %d): %v, %d; %d is wanted", l, on, need, power, e, want)
	}
}

func wantValue(t *testing.T, l []api.Unit, need, spare []int, on [][]bool, want int) {
	t.Helper()
	if cost, e := commit.Value(l, need, spare, on); cost != want || e != api.OK {
		t.Errorf("Value(%+v, %v, %v, %v): %d, %d; %d is wanted", l, need, spare, on, cost, e, want)
	}
}

func noValue(t *testing.T, l []api.Unit, need, spare []int, on [][]bool, want api.Errno) {
	t.Helper()
	if cost, e := commit.Value(l, need, spare, on); cost != 0 || e != want {
		t.Errorf("Value(%+v, %v, %v, %v): %d, %d; %d is wanted", l, need, spare, on, cost, e, want)
	}
}

// wantBest: whether Best tells this schedule, whose Value is what it tells, too.
func wantBest(t *testing.T, l []api.Unit, need, spare []int, want [][]bool, cost int) {
	t.Helper()
	if on, c, e := commit.Best(l, need, spare); !same(on, want) || c != cost || e != api.OK {
		t.Errorf("Best(%+v, %v, %v): %v, %d, %d; %v, %d is wanted", l, need, spare, on, c, e, want, cost)
	}
	wantValue(t, l, need, spare, want, cost)
}

func noBest(t *testing.T, l []api.Unit, need, spare []int, want api.Errno) {
	t.Helper()
	if on, cost, e := commit.Best(l, need, spare); len(on) > 0 || cost != 0 || e != want {
		t.Errorf("Best(%+v, %v, %v): %v, %d, %d; %d is wanted", l, need, spare, on, cost, e, want)
	}
}

// byOne: Merit, megawatt by megawatt; nil: it can't be.
func byOne(l []api.Unit, on []bool, need int) []int {
	power := make([]int, len(l))
	for i, u := range l {
		if on[i] {
			power[i] = u.Least
			need -= u.Least
		}
	}
	for ; need > 0; need-- {
		at := -1
		for i, u := range l {
			if on[i] && power[i] < u.Most && (at < 0 || u.Cost < l[at].Cost) {
				at = i
			}
		}
		if at < 0 {
			return nil
		}
		power[at]++
	}
	if need < 0 {
		return nil
	}
	return power
}

// stayed: for how many hours a unit has been as it is ahead of an hour, and whether it is on.
func stayed(u api.Unit, unit, hour int, on [][]bool) (int, bool) {
	is := u.Was > 0
	if hour > 0 {
		is = on[hour-1][unit]
	}
	count := 0
	for h := hour - 1; h >= 0; h-- {
		if on[h][unit] != is {
			return count, is
		}
		count++
	}
	if is == (u.Was > 0) {
		count += max(u.Was, -u.Was)
	}
	return count, is
}

// judged: the tests' own Value of a schedule whose sizes and numbers are right.
func judged(l []api.Unit, need, spare []int, on [][]bool) (int, api.Errno) {
	cost := 0
	for h := range on {
		most := 0
		for i, u := range l {
			long, was := stayed(u, i, h, on)
			switch {
			case on[h][i] && !was && long < u.Down, !on[h][i] && was && long < u.Up:
				return 0, api.ErrShut
			case on[h][i] && !was:
				cost += u.Start
			}
			if on[h][i] {
				most += u.Most
			}
		}
		power := byOne(l, on[h], need[h])
		if power == nil || most < need[h]+spare[h] {
			return 0, api.ErrSum
		}
		for i, u := range l {
			cost += power[i] * u.Cost
		}
	}
	return cost, api.OK
}

// unfold: a schedule that is told by a number: its bits are hours and within them units, the first one is the highest.
func unfold(number, units, hours int) [][]bool {
	on := make([][]bool, hours)
	for h := range on {
		on[h] = make([]bool, units)
		for i := range units {
			on[h][i] = number>>(units*hours-1-units*h-i)&1 == 1
		}
	}
	return on
}

// foremost: the first of all schedules that cost least, all of them being looked at.
func foremost(l []api.Unit, need, spare []int) (best [][]bool, least int, e api.Errno) {
	e = api.ErrNone
	for number := range 1 << (len(l) * len(need)) {
		on := unfold(number, len(l), len(need))
		if cost, f := judged(l, need, spare, on); f == api.OK && (e != api.OK || cost < least) {
			best, least, e = on, cost, api.OK
		}
	}
	return best, least, e
}

// kept: a way up to an hour: what it costs, and its number, as unfold takes it.
type kept struct{ cost, number int }

// forward: as foremost, but hour by hour: of all that led to the same last three hours the best one is kept.
func forward(l []api.Unit, need, spare []int) ([][]bool, int, api.Errno) {
	ways := map[[api.MaxUnits]int]kept{lately(l): {}}
	for h := range need {
		next := map[[api.MaxUnits]int]kept{}
		for last, way := range ways {
			for choice := range 1 << len(l) {
				now, cost, ok := onward(l, last, need[h], spare[h], unfold(choice, len(l), 1)[0])
				if !ok {
					continue
				}
				k := kept{way.cost + cost, way.number<<len(l) | choice}
				if old, ok := next[now]; !ok || k.cost < old.cost || k.cost == old.cost && k.number < old.number {
					next[now] = k
				}
			}
		}
		ways = next
	}
	var best kept
	found := false
	for _, k := range ways {
		if !found || k.cost < best.cost || k.cost == best.cost && k.number < best.number {
			best, found = k, true
		}
	}
	if !found {
		return nil, 0, api.ErrNone
	}
	return unfold(best.number, len(l), len(need)), best.cost, api.OK
}

// lately: of each unit the last three hours ahead of the first one, as bits, the last one lowest; of what was ahead of them Was tells nothing but that it was the other.
func lately(l []api.Unit) (last [api.MaxUnits]int) {
	for i, u := range l {
		last[i] = 1<<min(max(u.Was, 0), 3) - 1
		if u.Was < 0 {
			last[i] = 7 &^ (1<<min(-u.Was, 3) - 1)
		}
	}
	return last
}

// onward: an hour, by what was on lately.
func onward(l []api.Unit, last [api.MaxUnits]int, need, spare int, on []bool) ([api.MaxUnits]int, int, bool) {
	cost, most := 0, 0
	for i, u := range l {
		was := last[i]&1 == 1
		up, down := 1<<u.Up-1, 1<<u.Down-1
		if on[i] && !was && last[i]&down != 0 || !on[i] && was && last[i]&up != up {
			return last, 0, false
		}
		last[i] = last[i] << 1 & 7
		if on[i] {
			last[i]++
			most += u.Most
			if !was {
				cost += u.Start
			}
		}
	}
	power := byOne(l, on, need)
	for i := range power {
		cost += power[i] * l[i].Cost
	}
	return last, cost, power != nil && most >= need+spare
}

// drawnUnits: so many, of small numbers, so that costs are often the same.
func drawnUnits(d *rand.Rand, count int) []api.Unit {
	l := make([]api.Unit, count)
	for i := range l {
		u := api.Unit{Least: d.IntN(8), Cost: d.IntN(4), Start: d.IntN(30), Up: 1 + d.IntN(3), Down: 1 + d.IntN(3), Was: 1 + d.IntN(4)}
		if d.IntN(3) == 0 {
			u.Least, u.Start = 0, 0
		}
		if d.IntN(2) == 0 {
			u.Was = -u.Was
		}
		u.Most = u.Least + d.IntN(25)
		l[i] = u
	}
	return l
}

// drawnPowers: so many, each up to most.
func drawnPowers(d *rand.Rand, count, most int) []int {
	l := make([]int, count)
	for i := range l {
		l[i] = d.IntN(most + 1)
	}
	return l
}

// drawnOn: which are on, hour by hour.
func drawnOn(d *rand.Rand, units, hours int) [][]bool {
	return unfold(d.IntN(1<<(units*hours)), units, hours)
}
