package flow

import (
	"math/big"

	"gridworks/grid"
)

// worths: the table by which angles, multiplied, are what flows out of their nodes. Without the islands' first nodes no beginning of it has the determinant 0.
func worths(g grid.Grid) grid.Cell {
	return func(r, c int) *big.Int {
		return big.NewInt(int64(g.From(g.Asked[r], c)))
	}
}

// fed: the table of worths, and behind it a column of what is fed.
func fed(g grid.Grid, column []*big.Int) grid.Cell {
	worth := worths(g)
	return func(r, c int) *big.Int {
		if c == len(g.Asked) {
			return column[r]
		}
		return worth(r, c)
	}
}

// balanced: whether all that is fed into an island is drawn from it.
func balanced(g grid.Grid, feeds []*big.Rat) bool {
	for _, x := range together(len(g.Islands), g.Islands, feeds) {
		if x.Sign() != 0 {
			return false
		}
	}
	return true
}

// angles of all buses, of what they feed in.
func angles(g grid.Grid, feeds []*big.Rat) []*big.Rat {
	rows := len(g.Asked)
	column, unit := grid.Whole(together(rows, g.Row, feeds))
	t := grid.Fill(rows, rows+1, fed(g, column))
	unit.Mul(unit, t.Reduce())
	for r := range column {
		column[r] = t[r][rows]
	}
	return g.Angles(column, unit)
}
