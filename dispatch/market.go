package dispatch

import (
	"math/big"

	"gridworks/api"
	"gridworks/grid"
)

// market: a grid at whose nodes power is made, sold and bought.
type market struct {
	grid.Grid
	first []int // of each node its first bus
}

// open a market. Errors as those of layer 3.
func open(n api.Net, out []bool) (market, api.Errno) {
	g, e := grid.InService(n, out)
	if e != api.OK {
		return market{}, e
	}
	m := market{Grid: g}
	for bus, node := range g.Nodes {
		if node == len(m.first) { // nodes are numbered as their first buses come
			m.first = append(m.first, bus)
		}
	}
	return m, api.OK
}

// drawn: of each node what its loads draw, together.
func (m market) drawn() []int {
	l := make([]int, len(m.first))
	for _, d := range m.Net.Loads {
		l[m.Nodes[d.Bus]] += d.Power
	}
	return l
}

// away: of each node what goes out of it over its lines, of what goes over each line.
func (m market) away(over []*big.Rat) []*big.Rat {
	l := make([]*big.Rat, len(m.first))
	for node := range l {
		l[node] = new(big.Rat)
	}
	for i, k := range m.Net.Lines {
		from, to := l[m.Nodes[k.From]], l[m.Nodes[k.To]]
		from.Add(from, over[i])
		to.Sub(to, over[i])
	}
	return l
}
