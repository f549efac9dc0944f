package dispatch

import (
	"math/big"

	"gridworks/grid"
)

// nobody: no row or column is as it is asked for.
const nobody = -1

// span: what an amount may be: from least to most; a free one, anything.
type span struct {
	least, most int
	free        bool
}

// end of a span: 1: its most, -1: its least.
func (s span) end(way int) int {
	if way > 0 {
		return s.most
	}
	return s.least
}

// table of amounts, of which some stand in rows and hang on the others, which stand in columns: the amount of a row times the unit is that of each column times what stands in the cell, together. Cells stay whole, as those of grid's tables do.
type table struct {
	spans   []span // of each amount
	at      []int  // of each amount that stands in a column: how much it is, an end of its span (0, if it is free)
	rows    []int  // which amounts stand there
	columns []int
	cells   grid.Table
	unit    *big.Int // above 0
}

// much: how much an amount is, times the unit.
func (t *table) much(row int) *big.Int {
	all := new(big.Int)
	for c, amount := range t.columns {
		if k := t.at[amount]; k != 0 {
			x := big.NewInt(int64(k))
			all.Add(all, x.Mul(x, t.cells[row][c]))
		}
	}
	return all
}

// room: how far a row's amount is from the end of its span that way, times the unit; below 0: it is beyond.
func (t *table) room(row, way int) *big.Int {
	x := big.NewInt(int64(t.spans[t.rows[row]].end(way)))
	x.Sub(x.Mul(x, t.unit), t.much(row))
	if way < 0 {
		x.Neg(x)
	}
	return x
}

// lack: which way a row's amount has to move to be in its span; 0: it is there.
func (t *table) lack(row int) int {
	if t.spans[t.rows[row]].free {
		return 0
	}
	for _, way := range []int{-1, 1} {
		if t.room(row, way).Sign() < 0 {
			return -way
		}
	}
	return 0
}

// first: of the places that fit the one whose amount is the first of all. Were it another one, swaps might go round for ever.
func first(amounts []int, fits func(place int) bool) int {
	at := nobody
	for i, amount := range amounts {
		if (at == nobody || amount < amounts[at]) && fits(i) {
			at = i
		}
	}
	return at
}

// mover: the column that can move a row's amount that way.
func (t *table) mover(row, way int) int {
	return first(t.columns, func(c int) bool {
		s, sign := t.spans[t.columns[c]], way*t.cells[row][c].Sign()
		return sign != 0 && (s.free || t.at[t.columns[c]] != s.end(sign))
	})
}

// mend: swaps until each amount is in its span; if that can't be it answers a row that nothing can move, and which way it should.
func (t *table) mend() (int, int) {
	for {
		row := first(t.rows, func(r int) bool { return t.lack(r) != 0 })
		if row == nobody {
			return nobody, 0
		}
		way := t.lack(row)
		column := t.mover(row, way)
		if column == nobody {
			return row, way
		}
		t.swap(row, column, t.spans[t.rows[row]].end(-way))
	}
}

// lower a row's amount, which is free, as far as it goes, while all others stay in their spans.
func (t *table) lower(row int) {
	for {
		column := t.mover(row, -1)
		if column == nobody {
			return
		}
		t.move(column, -t.cells[row][column].Sign())
	}
}

// move a column's amount until it is at its span's other end, or a row's amount is at an end of its own: then both are swapped.
func (t *table) move(column, way int) {
	steps := make([]*big.Rat, len(t.rows))
	for r := range t.rows {
		steps[r] = t.step(r, column, way)
	}
	row := first(t.rows, func(r int) bool { return steps[r] != nil && least(steps, steps[r]) })
	s := t.spans[t.columns[column]]
	if !s.free && (row == nobody || whole(s.most-s.least).Cmp(steps[row]) <= 0) {
		t.at[t.columns[column]] = s.end(way)
		return
	}
	t.swap(row, column, t.spans[t.rows[row]].end(way*t.cells[row][column].Sign()))
}

// step: how far a column's amount can move until a row's is at an end of its span; nil: as far as it likes.
func (t *table) step(row, column, way int) *big.Rat {
	cell := t.cells[row][column]
	if cell.Sign() == 0 || t.spans[t.rows[row]].free {
		return nil
	}
	return new(big.Rat).SetFrac(t.room(row, way*cell.Sign()), new(big.Int).Abs(cell))
}

// least: whether none of a list is less.
func least(l []*big.Rat, x *big.Rat) bool {
	for _, y := range l {
		if y != nil && y.Cmp(x) < 0 {
			return false
		}
	}
	return true
}

// swap the amounts of a row and of a column; that of the row is then so much.
func (t *table) swap(row, column, at int) {
	by, own := t.cells[row], t.unit
	sign := by[column].Sign()
	if sign < 0 { // the unit stays above 0
		by, own = negated(by), new(big.Int).Neg(own)
	}
	for r := range t.cells {
		if r == row {
			continue
		}
		cell := t.cells[r][column]
		t.cells[r] = grid.Cleared(t.cells[r], by, column, t.unit)
		t.cells[r][column] = new(big.Int).Mul(cell, big.NewInt(int64(sign)))
	}
	t.cells[row] = negated(by)
	t.cells[row][column] = own
	t.unit = by[column]
	t.rows[row], t.columns[column] = t.columns[column], t.rows[row]
	t.at[t.columns[column]] = at
}

func negated(l []*big.Int) []*big.Int {
	m := make([]*big.Int, len(l))
	for i, x := range l {
		m[i] = new(big.Int).Neg(x)
	}
	return m
}
