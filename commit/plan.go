package commit

import (
	"math"
	"slices"

	"gridworks/api"
)

// plan: what a fleet is to generate, and to have room for, hour by hour.
type plan struct {
	fleet
	need, spare []int
}

// draft of a plan; the lists' sizes are right.
func draft(l []api.Unit, need, spare []int) (plan, api.Errno) {
	switch {
	case !all(l, mayBe):
		return plan{}, api.ErrState
	case !all(need, mayBeAsked) || !all(spare, mayBeAsked):
		return plan{}, api.ErrRange
	}
	return plan{gather(l), need, spare}, api.OK
}

// value of a schedule.
func (p plan) value(on [][]bool) (int, api.Errno) {
	s, cost := p.before(), 0
	for h, l := range on {
		next, turned, e := p.turn(s, l)
		if e != api.OK {
			return 0, e
		}
		ran, e := p.run(l, p.need[h], p.spare[h])
		if e != api.OK {
			return 0, e
		}
		s, cost = next, cost+turned+ran
	}
	return cost, api.OK
}

// best schedule, and what it costs.
func (p plan) best() ([][]bool, int, api.Errno) {
	c := p.search()
	at := moment{stand: p.before()}
	cost := c.ahead(at).cost
	if cost == never {
		return nil, 0, api.ErrNone
	}
	return c.schedule(at), cost, api.OK
}

// never: what costs so much can't be.
const never = math.MaxInt

// moment: an hour, and how units stand ahead of it.
type moment struct {
	hour  int
	stand stand
}

// outlook of a moment: what the hours from it on cost at least, and what is chosen first.
type outlook struct{ cost, choice int }

// search for the best schedule. Whatever led to a moment, what is best from it on is the same: so it is worked out once.
type search struct {
	plan
	choices [][]bool // which are on: what comes first is ahead
	runs    [][]int  // of each hour and choice what it costs
	known   map[moment]outlook
}

func (p plan) search() search {
	c := search{plan: p, choices: choices(len(p.units)), known: map[moment]outlook{}}
	for h := range p.need {
		var l []int
		for _, on := range c.choices {
			cost, e := p.run(on, p.need[h], p.spare[h])
			if e != api.OK {
				cost = never
			}
			l = append(l, cost)
		}
		c.runs = append(c.runs, l)
	}
	return c
}

// choices of so many units: the first unit counts most, and off is ahead of on.
func choices(units int) [][]bool {
	l := make([][]bool, 1<<units)
	for k := range l {
		l[k] = make([]bool, units)
		for i := range units {
			l[k][i] = k>>(units-1-i)&1 == 1
		}
	}
	return l
}

// ahead of a moment. A choice that costs no less than one ahead of it is passed over: so of several the first one is told.
func (c search) ahead(at moment) outlook {
	if at.hour == len(c.need) {
		return outlook{}
	}
	if o, ok := c.known[at]; ok {
		return o
	}
	best := outlook{cost: never}
	for k := range c.choices {
		if cost := c.through(at, k); cost < best.cost {
			best = outlook{cost, k}
		}
	}
	c.known[at] = best
	return best
}

// through a choice: what the hours from a moment on cost at least, if this is chosen in the first of them.
func (c search) through(at moment, choice int) int {
	run := c.runs[at.hour][choice]
	next, turned, e := c.turn(at.stand, c.choices[choice])
	if run == never || e != api.OK {
		return never
	}
	later := c.ahead(moment{at.hour + 1, next}).cost
	if later == never {
		return never
	}
	return run + turned + later
}

// schedule: what is chosen, hour by hour, from a moment on.
func (c search) schedule(at moment) [][]bool {
	var l [][]bool
	for at.hour < len(c.need) {
		on := c.choices[c.ahead(at).choice]
		l = append(l, slices.Clone(on)) // one choice may be made in several hours
		s, _, _ := c.turn(at.stand, on)
		at = moment{at.hour + 1, s}
	}
	return l
}
