// Package grid: what the layers share that work with angles: which of these are asked for, what flows by them, and tables of numbers.
package grid

import (
	"math/big"

	"gridworks/api"
	"gridworks/bars"
)

// None: the row of a bus whose angle is 0, and not asked for.
const None = -1

// Grid: a network, and which angles are asked for: those of its nodes, but for the first one of each island.
type Grid struct {
	Net     api.Net
	Out     []bool
	Nodes   []int // of each bus
	Islands []int // of each bus
	Row     []int // of each bus: where the angle of its node stands
	Asked   []int // of each row: the first bus of its node
}

// InService: of a network that may be, and of its lines that are not out. Errors as those of layer 3.
func InService(n api.Net, out []bool) (Grid, api.Errno) {
	islands, e := bars.Islands(n, out)
	if e != api.OK {
		return Grid{}, e
	}
	nodes, _ := bars.Nodes(n) // Islands refuses all that Nodes does
	g := Grid{Net: n, Out: out, Nodes: nodes, Islands: islands, Row: make([]int, len(nodes))}
	var rowOf []int // of each node; nodes and islands are numbered as their first buses come
	known := 0      // islands
	for bus, node := range nodes {
		switch {
		case islands[bus] == known:
			rowOf = append(rowOf, None)
			known++
		case node == len(rowOf):
			rowOf = append(rowOf, len(g.Asked))
			g.Asked = append(g.Asked, bus)
		}
		g.Row[bus] = rowOf[node]
	}
	return g, api.OK
}

// Over: what flows over a line, by each one that the angle of a row is.
func (g Grid) Over(line, row int) int {
	if g.Out[line] {
		return 0
	}
	l := g.Net.Lines[line]
	return l.Worth * side(g.Row, l, row)
}

// From: what flows out of a bus's node over its lines, by each one that the angle of a row is.
func (g Grid) From(bus, row int) int {
	all := 0
	for i, l := range g.Net.Lines {
		all += side(g.Nodes, l, g.Nodes[bus]) * g.Over(i, row)
	}
	return all
}

// side: 1, if a line begins at a bus of this number, -1, if it ends there; a line within one node has both sides there: 0.
func side(number []int, l api.Line, k int) int {
	ends := 0
	if number[l.From] == k {
		ends++
	}
	if number[l.To] == k {
		ends--
	}
	return ends
}

// Angles of all buses, of those that are asked for: row by row so many, each over one number.
func (g Grid) Angles(rows []*big.Int, over *big.Int) []*big.Rat {
	l := make([]*big.Rat, len(g.Row))
	for bus, row := range g.Row {
		l[bus] = new(big.Rat)
		if row != None {
			l[bus].SetFrac(rows[row], over)
		}
	}
	return l
}

// Flows over all lines, of the angles of all buses.
func (g Grid) Flows(angles []*big.Rat) []*big.Rat {
	l := make([]*big.Rat, len(g.Net.Lines))
	for i, k := range g.Net.Lines {
		l[i] = new(big.Rat)
		if !g.Out[i] {
			l[i].Sub(angles[k.From], angles[k.To])
			l[i].Mul(l[i], big.NewRat(int64(k.Worth), 1))
		}
	}
	return l
}
