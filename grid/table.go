package grid

import "math/big"

// Table of whole numbers, row by row: a square, and what stands behind it.
type Table [][]*big.Int

// Cell: what stands in a table.
type Cell func(row, column int) *big.Int

// Fill: a table of so many rows and columns.
func Fill(rows, columns int, what Cell) Table {
	t := make(Table, rows)
	for r := range t {
		t[r] = make([]*big.Int, columns)
		for c := range t[r] {
			t[r][c] = what(r, c)
		}
	}
	return t
}

// Reduce answers the determinant of the square, and leaves 0 in it but for the determinant from corner to corner: what stands behind it is then what was asked for, times the determinant. All numbers stay whole on the way, since what is divided by is the determinant of a lesser square, in the table's first corner. If one of these is 0 it answers 0, and leaves nothing of use: it is for squares in which this means that all of it has the determinant 0.
func (t Table) Reduce() *big.Int {
	last := big.NewInt(1)
	for k := range t {
		if t[k][k].Sign() == 0 {
			return new(big.Int)
		}
		for r := range t {
			if r != k {
				t[r] = Cleared(t[r], t[k], k, last)
			}
		}
		last = t[k][k]
	}
	return last
}

// Cleared: a row, anew, whose cell k is made 0 by another row; last is what all was multiplied by the time before, and is not needed any more.
func Cleared(row, by []*big.Int, k int, last *big.Int) []*big.Int {
	l := make([]*big.Int, len(row))
	for c := range row {
		x := new(big.Int).Mul(row[c], by[k])
		y := new(big.Int).Mul(by[c], row[k])
		l[c] = x.Quo(x.Sub(x, y), last)
	}
	return l
}
