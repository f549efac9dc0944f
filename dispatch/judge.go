package dispatch

import (
	"math/big"

	"gridworks/api"
	"gridworks/grid"
)

// Columns of a deal.
const (
	power = iota
	angle
	flow
	price
	rent
	columns
)

// judge of a deal: the market, and what the deal tells there.
type judge struct {
	market
	told [columns][]*big.Rat
	cost *big.Rat
}

// judge of a deal; whether the deal has numbers alone, as many as there must be.
func (m market) judge(d api.Deal) (judge, bool) {
	j := judge{market: m}
	texts := [columns][]string{power: d.Power, angle: d.Angles, flow: d.Flows, price: d.Price, rent: d.Rent}
	var read [columns]bool
	for c, count := range m.counts(d.None) {
		j.told[c], read[c] = numbers(count, texts[c])
	}
	cost, e := grid.Long(d.Cost)
	j.cost = cost
	return j, e == api.OK && read == [columns]bool{power: true, angle: true, flow: true, price: true, rent: true}
}

// counts: of each column how many numbers it must have.
func (m market) counts(none bool) [columns]int {
	c := [columns]int{price: len(m.Net.Buses), rent: len(m.Net.Lines)}
	if !none {
		c[power], c[angle], c[flow] = len(m.Net.Gens), len(m.Net.Buses), len(m.Net.Lines)
	}
	return c
}

// right, where something can be.
func (j judge) right() bool {
	return j.turned() && j.within() && j.served() && j.paid() && j.priced() && j.tight() && j.chosen()
}

// hopeless: whether prices and rents show that nothing can be. If they fit to one another then, whatever flows, what loads pay is no more than what generators get and what all rents are worth; here it is more, even if these generate what gets them most.
func (j judge) hopeless() bool {
	left := new(big.Rat)
	for _, d := range j.Net.Loads {
		left.Add(left, times(d.Power, j.told[price][d.Bus]))
	}
	for i, l := range j.Net.Lines {
		left.Sub(left, times(l.Limit, size(j.told[rent][i])))
	}
	for _, g := range j.Net.Gens {
		most := g.Most
		if j.told[price][g.Bus].Sign() < 0 {
			most = g.Least
		}
		left.Sub(left, times(most, j.told[price][g.Bus]))
	}
	return j.cost.Sign() == 0 && j.priced() && left.Sign() > 0
}

// turned: whether angles are as they must be, and flows as angles tell.
func (j judge) turned() bool {
	for bus, x := range j.told[angle] {
		if j.Row[bus] == grid.None && x.Sign() != 0 {
			return false
		}
	}
	for i, x := range j.Flows(j.told[angle]) {
		if x.Cmp(j.told[flow][i]) != 0 {
			return false
		}
	}
	return j.alike(angle)
}

// alike: whether the buses of each node have the same in a column.
func (j judge) alike(column int) bool {
	l := j.told[column]
	for bus, node := range j.Nodes {
		if l[bus].Cmp(l[j.first[node]]) != 0 {
			return false
		}
	}
	return true
}

// within: whether no generator and no line has more or less than it may.
func (j judge) within() bool {
	for i, g := range j.Net.Gens {
		if x := j.told[power][i]; x.Cmp(whole(g.Least)) < 0 || x.Cmp(whole(g.Most)) > 0 {
			return false
		}
	}
	for i, l := range j.Net.Lines {
		if size(j.told[flow][i]).Cmp(whole(l.Limit)) > 0 {
			return false
		}
	}
	return true
}

// served: whether each node has what it draws.
func (j judge) served() bool {
	needed := j.away(j.told[flow])
	for node, draws := range j.drawn() {
		needed[node].Add(needed[node], whole(draws))
	}
	for i, g := range j.Net.Gens {
		x := needed[j.Nodes[g.Bus]]
		x.Sub(x, j.told[power][i])
	}
	return noughts(needed)
}

// paid: whether the cost is what all generators cost together.
func (j judge) paid() bool {
	all := new(big.Rat)
	for i, g := range j.Net.Gens {
		all.Add(all, times(g.Cost, j.told[power][i]))
	}
	return all.Cmp(j.cost) == 0
}

// priced: whether prices and rents fit to one another, whatever flows.
func (j judge) priced() bool {
	over := j.Flows(j.told[price]) // what prices drive over a line is, like what angles do, its Worth times by how much they fall
	for i, l := range j.Net.Lines {
		x := j.told[rent][i]
		if j.Out[i] && x.Sign() != 0 {
			return false
		}
		over[i].Add(over[i], times(l.Worth, x))
	}
	return j.alike(price) && noughts(j.away(over))
}

// tight: whether a line that has a rent carries all it can, that way.
func (j judge) tight() bool {
	for i, l := range j.Net.Lines {
		way := j.told[rent][i].Sign()
		if way != 0 && j.told[flow][i].Cmp(whole(way*l.Limit)) != 0 {
			return false
		}
	}
	return true
}

// chosen: whether who is cheaper than its bus's price generates all it can, and who is dearer no more than it must.
func (j judge) chosen() bool {
	for i, g := range j.Net.Gens {
		x := j.told[power][i]
		switch whole(g.Cost).Cmp(j.told[price][g.Bus]) {
		case -1:
			if x.Cmp(whole(g.Most)) != 0 {
				return false
			}
		case 1:
			if x.Cmp(whole(g.Least)) != 0 {
				return false
			}
		}
	}
	return true
}
