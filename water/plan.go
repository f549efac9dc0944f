package water

import "iter"

// moment: an hour, and how the lakes stand ahead of it.
type moment struct {
	hour  int
	stand stand
}

// outlook of a moment: what the hours from it on are worth at most, and what is released in the first of them.
type outlook struct {
	worth   int
	release row
}

// plan: what releases of a chain are worth. Whatever led to a moment, what is best from it on is the same: so it is worked out once.
type plan struct {
	chain
	price, end []int
	known      map[moment]outlook
}

func draft(c chain, price, end []int) plan {
	return plan{c, price, end, map[moment]outlook{}}
}

// best releases, and what they are worth.
func (p plan) best() ([][]int, int) {
	at := moment{stand: p.start()}
	worth := p.ahead(at).worth
	var releases [][]int
	for at.hour < len(p.inflow) {
		r := p.ahead(at).release
		releases = append(releases, r.list(len(p.lakes)))
		at = p.after(at, p.fill(at.stand, at.hour), r)
	}
	return releases, worth
}

// choices of releases, each from 0 to its most: what comes first is ahead, as the last lake's release counts up first.
func choices(most row) iter.Seq[row] {
	return func(yield func(row) bool) {
		var r row
		for yield(r) {
			i := len(r) - 1
			for ; i >= 0 && r[i] >= most[i]; i-- {
				r[i] = 0
			}
			if i < 0 {
				return
			}
			r[i]++
		}
	}
}

// ahead of a moment. A choice that is worth no more than one ahead of it is passed over: so of several the first one is told.
func (p plan) ahead(at moment) outlook {
	if at.hour == len(p.inflow) {
		return outlook{worth: p.kept(at.stand.level)}
	}
	if o, ok := p.known[at]; ok {
		return o
	}
	full := p.fill(at.stand, at.hour)
	best := outlook{worth: -1}
	for r := range choices(p.free(full)) {
		if worth := p.earned(at.hour, r) + p.ahead(p.after(at, full, r)).worth; worth > best.worth {
			best = outlook{worth, r}
		}
	}
	p.known[at] = best
	return best
}

// after an hour in which this is released of what is in the lakes.
func (p plan) after(at moment, full, release row) moment {
	s, _ := p.drain(full, release)
	return moment{at.hour + 1, s}
}

// earned by what is released in an hour.
func (p plan) earned(hour int, release row) int {
	worth := 0
	for i, k := range p.lakes {
		worth += release[i] * k.Worth * p.price[hour]
	}
	return worth
}

// kept: what is in the lakes at last is worth this; what is on its way then counts nothing.
func (p plan) kept(level row) int {
	worth := 0
	for i, each := range p.end {
		worth += level[i] * each
	}
	return worth
}
