package flow

import (
	"math/big"

	"gridworks/api"
	"gridworks/bars"
)

// none: the row of a bus whose angle is 0, and not asked for.
const none = -1

// grid: a network, and which angles are asked for: those of its nodes, but for the first one of each island. Without these no beginning of the table of worths has the determinant 0.
type grid struct {
	net     api.Net
	out     []bool
	islands []int // of each bus
	row     []int // of each bus: where the angle of its node stands
	rows    int
}

func inService(n api.Net, out []bool) (grid, api.Errno) {
	islands, e := bars.Islands(n, out)
	if e != api.OK {
		return grid{}, e
	}
	nodes, _ := bars.Nodes(n) // Islands refuses all that Nodes does
	g := grid{net: n, out: out, islands: islands, row: make([]int, len(nodes))}
	var rowOf []int // of each node; nodes and islands are numbered as their first buses come
	known := 0      // islands
	for bus, node := range nodes {
		switch {
		case islands[bus] == known:
			rowOf = append(rowOf, none)
			known++
		case node == len(rowOf):
			rowOf = append(rowOf, g.rows)
			g.rows++
		}
		g.row[bus] = rowOf[node]
	}
	return g, api.OK
}

// balanced: whether all that is fed into an island is drawn from it.
func (g grid) balanced(feeds []*big.Rat) bool {
	for _, x := range together(len(g.islands), g.islands, feeds) {
		if x.Sign() != 0 {
			return false
		}
	}
	return true
}

// worths: the table by which angles, multiplied, are what flows out of their nodes.
func (g grid) worths() cell {
	side := func(l api.Line, row int) int { // a line within one node has both sides there: 0
		ends := 0
		if g.row[l.From] == row {
			ends++
		}
		if g.row[l.To] == row {
			ends--
		}
		return ends
	}
	return func(r, c int) *big.Int {
		all := 0
		for i, l := range g.net.Lines {
			if !g.out[i] {
				all += side(l, r) * l.Worth * side(l, c)
			}
		}
		return big.NewInt(int64(all))
	}
}

// fed: the table of worths, and behind it a column of what is fed.
func (g grid) fed(column []*big.Int) cell {
	worth := g.worths()
	return func(r, c int) *big.Int {
		if c == g.rows {
			return column[r]
		}
		return worth(r, c)
	}
}

func (g grid) angles(feeds []*big.Rat) []*big.Rat {
	column, unit := whole(together(g.rows, g.row, feeds))
	t := fill(g.rows, g.rows+1, g.fed(column))
	unit.Mul(unit, t.reduce())
	l := make([]*big.Rat, len(g.row))
	for bus, row := range g.row {
		l[bus] = new(big.Rat)
		if row != none {
			l[bus].SetFrac(t[row][g.rows], unit)
		}
	}
	return l
}

func (g grid) flows(angles []*big.Rat) []*big.Rat {
	l := make([]*big.Rat, len(g.net.Lines))
	for i, k := range g.net.Lines {
		l[i] = new(big.Rat)
		if !g.out[i] {
			l[i].Sub(angles[k.From], angles[k.To])
			l[i].Mul(l[i], big.NewRat(int64(k.Worth), 1))
		}
	}
	return l
}
