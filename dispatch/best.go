package dispatch

import (
	"math/big"
	"slices"

	"gridworks/api"
	"gridworks/grid"
)

// Kinds of amounts, in the order in which they stand.
const (
	made    = iota // what a generator generates
	turn           // an angle that is asked for
	taken          // what a node's generators make, less what flows out of it: what its loads draw
	carried        // what flows over a line
	paid           // what all costs
	kinds
)

// hall: a market at work: of each kind of amounts where its first one stands (behind all of them: how many there are), and the table of them.
type hall struct {
	market
	begin [kinds + 1]int
	table
}

// hall: at first generators make the least they may, all angles are 0, and what is taken, carried and paid hangs on these.
func (m market) hall() hall {
	h := hall{market: m}
	counts := [kinds]int{made: len(m.Net.Gens), turn: len(m.Asked), taken: len(m.first), carried: len(m.Net.Lines), paid: 1}
	for kind, count := range counts {
		h.begin[kind+1] = h.begin[kind] + count
	}
	h.table = table{spans: m.ranges(), at: make([]int, h.begin[kinds]), unit: big.NewInt(1)}
	for i, g := range m.Net.Gens {
		h.at[h.begin[made]+i] = g.Least
	}
	for amount := range h.at {
		if amount < h.begin[taken] {
			h.columns = append(h.columns, amount)
		} else {
			h.rows = append(h.rows, amount)
		}
	}
	h.cells = grid.Fill(len(h.rows), len(h.columns), h.cell())
	return h
}

// ranges: the spans of all amounts, kind by kind.
func (m market) ranges() []span {
	var l []span
	for _, g := range m.Net.Gens {
		l = append(l, span{least: g.Least, most: g.Most})
	}
	l = append(l, slices.Repeat([]span{{free: true}}, len(m.Asked))...)
	for _, draws := range m.drawn() {
		l = append(l, span{least: draws, most: draws})
	}
	for _, k := range m.Net.Lines {
		l = append(l, span{least: -k.Limit, most: k.Limit})
	}
	return append(l, span{free: true})
}

// cell: how much of what is taken, carried and paid comes of each one that is made, or that an angle is.
func (h hall) cell() grid.Cell {
	return func(r, c int) *big.Int {
		kind, at := h.kind(h.rows[r])
		of, i := h.kind(h.columns[c])
		x := 0
		switch {
		case kind == taken && of == made && h.Nodes[h.Net.Gens[i].Bus] == at:
			x = 1
		case kind == taken && of == turn:
			x = -h.From(h.first[at], i)
		case kind == carried && of == turn:
			x = h.Over(at, i)
		case kind == paid && of == made:
			x = h.Net.Gens[i].Cost
		}
		return big.NewInt(int64(x))
	}
}

// kind of an amount, and which of that kind it is.
func (h hall) kind(amount int) (int, int) {
	kind := made
	for amount >= h.begin[kind+1] {
		kind++
	}
	return kind, amount - h.begin[kind]
}

// best: the right deal that the table leads to.
func (m market) best() api.Deal {
	h := m.hall()
	if row, way := h.mend(); row != nobody {
		return h.priced(api.Deal{None: true, Cost: "0"}, row, way)
	}
	bill := slices.Index(h.rows, h.begin[paid]) // a free amount never leaves its row
	h.lower(bill)
	angles := h.Angles(h.amounts(turn), h.unit)
	d := api.Deal{
		Power:  h.texts(h.amounts(made)),
		Angles: grid.Texts(angles),
		Flows:  grid.Texts(h.Flows(angles)),
		Cost:   h.texts(h.amounts(paid))[0],
	}
	return h.priced(d, bill, -1)
}

// amounts of a kind, times the unit.
func (h hall) amounts(kind int) []*big.Int {
	l := make([]*big.Int, h.begin[kind+1]-h.begin[kind])
	for i := range l {
		amount := h.begin[kind] + i
		if row := slices.Index(h.rows, amount); row != nobody {
			l[i] = h.much(row)
		} else {
			l[i] = new(big.Int).Mul(h.unit, big.NewInt(int64(h.at[amount])))
		}
	}
	return l
}

// texts of amounts that are told times the unit.
func (h hall) texts(l []*big.Int) []string {
	told := make([]string, len(l))
	for i, x := range l {
		told[i] = new(big.Rat).SetFrac(x, h.unit).RatString()
	}
	return told
}

// priced: a deal, with the prices and rents that show why a row's amount can't move that way: each amount that it hangs on stands at the end of its span. Of the cost a price is by how much it rises for one that a node draws more, a rent by how much it falls for one that a line carries more.
func (h hall) priced(d api.Deal, row, way int) api.Deal {
	moves := h.moves(row, -way)
	nodes := h.texts(moves[h.begin[taken]:h.begin[carried]])
	for _, node := range h.Nodes {
		d.Price = append(d.Price, nodes[node])
	}
	d.Rent = h.texts(negated(moves[h.begin[carried]:h.begin[paid]]))
	return d
}

// moves: of each amount how much of it a row's amount is, times the unit and the sign; of itself, -1 of it: so weighed all amounts are 0 together.
func (h hall) moves(row, sign int) []*big.Int {
	l := make([]*big.Int, h.begin[kinds])
	for amount := range l {
		l[amount] = new(big.Int)
	}
	for c, amount := range h.columns {
		l[amount].Mul(h.cells[row][c], big.NewInt(int64(sign)))
	}
	l[h.rows[row]].Mul(h.unit, big.NewInt(int64(-sign)))
	return l
}
