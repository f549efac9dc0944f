package estimate

import (
	"math/big"

	"gridworks/grid"
)

// nobody: no measure has a slack.
const nobody = -1

// fit: the state of least cost of what is measured. Its numbers are whole, so that nothing has to be brought to lowest terms but what is told.
type fit struct {
	sight
	determinant *big.Int   // of the measures' square
	over        *big.Int   // what angles and offs are told in parts of
	angles      []*big.Int // of each angle that is asked for
	offs        []*big.Int // of each measure
	slacks      []*big.Int // of each measure, times its weight and the determinant
}

// fit: whether there is one state of least cost, and which.
func (s sight) fit() (fit, bool) {
	angles := len(s.Asked)
	t := grid.Fill(angles, angles+len(s.measures), s.square())
	f := fit{sight: s, determinant: t.Reduce()}
	if f.determinant.Sign() == 0 {
		return fit{}, false
	}
	f.over = new(big.Int).Mul(s.unit, f.determinant)
	for _, r := range t {
		f.angles = append(f.angles, s.weighed(r[angles:]))
	}
	for i, m := range s.measures {
		off := new(big.Int).Mul(m.value, f.determinant)
		f.offs = append(f.offs, off.Sub(off, times(m.row, f.angles)))
		known := times(m.row, column(t, angles+i))
		known.Mul(known, m.weight)
		f.slacks = append(f.slacks, known.Sub(f.determinant, known))
	}
	return f, true
}

// square: the table by which angles, multiplied, are what the measures tell of each of them, weighed and together; behind it, a column each, the measures' own rows. No beginning of it has the determinant 0 unless all of it has: then there are angles that no measure sees.
func (s sight) square() grid.Cell {
	return func(r, c int) *big.Int {
		if c >= len(s.Asked) {
			return s.measures[c-len(s.Asked)].row[r]
		}
		all := new(big.Int)
		for _, m := range s.measures {
			x := new(big.Int).Mul(m.row[r], m.row[c])
			all.Add(all, x.Mul(x, m.weight))
		}
		return all
	}
}

// weighed: the measures' values and weights times what each of them counts, together.
func (s sight) weighed(counts []*big.Int) *big.Int {
	all := new(big.Int)
	for i, m := range s.measures {
		x := new(big.Int).Mul(m.value, m.weight)
		all.Add(all, x.Mul(x, counts[i]))
	}
	return all
}

// times: the numbers of two lists, multiplied place by place, together.
func times(a, b []*big.Int) *big.Int {
	all := new(big.Int)
	for i := range a {
		all.Add(all, new(big.Int).Mul(a[i], b[i]))
	}
	return all
}

func column(t grid.Table, c int) []*big.Int {
	l := make([]*big.Int, len(t))
	for r := range t {
		l[r] = t[r][c]
	}
	return l
}

// allOff: of each measure how far it is off.
func (f fit) allOff() []*big.Rat {
	l := make([]*big.Rat, len(f.offs))
	for i, x := range f.offs {
		l[i] = new(big.Rat).SetFrac(x, f.over)
	}
	return l
}

// bare: of a measure its off times its off, weighed, without what it is told in parts of.
func (f fit) bare(i int) *big.Int {
	x := new(big.Int).Mul(f.offs[i], f.offs[i])
	return x.Mul(x, f.measures[i].weight)
}

func (f fit) cost() *big.Rat {
	all := new(big.Int)
	for i := range f.measures {
		all.Add(all, f.bare(i))
	}
	return new(big.Rat).SetFrac(all, new(big.Int).Mul(f.over, f.over))
}

// worst: the first of the measures with a slack whose off times off is the most, over it, and how much that is.
func (f fit) worst() (int, *big.Rat) {
	at, most := nobody, new(big.Rat)
	for i, slack := range f.slacks {
		if slack.Sign() <= 0 {
			continue
		}
		if x := new(big.Rat).SetFrac(f.bare(i), slack); at == nobody || x.Cmp(most) > 0 {
			at, most = i, x
		}
	}
	parts := new(big.Int).Mul(f.over, f.over)
	return at, most.Mul(most, new(big.Rat).SetFrac(f.determinant, parts))
}
