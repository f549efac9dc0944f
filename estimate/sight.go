package estimate

import (
	"math/big"
	"slices"

	"gridworks/api"
	"gridworks/grid"
)

// measure that is fit.
type measure struct {
	place  int        // in the list that was handed in
	row    []*big.Int // of each angle that is asked for: how much the measure is, by each one of it
	value  *big.Int   // times the sight's unit
	weight *big.Int
}

// sight: what is measured of a grid.
type sight struct {
	grid.Grid
	measures []measure
	unit     *big.Int
}

// row tells of an angle that is asked for how much a measure is, by each one of it.
type row func(angle int) int

// look at measures, whether they are fit. All sizes are looked at first, since any ErrSize goes ahead of what else is wrong.
func look(g grid.Grid, l []api.Measure) (sight, api.Errno) {
	if len(l) > api.MaxMeasures {
		return sight{}, api.ErrSize
	}
	for _, m := range l {
		if len(m.Value) > api.MaxDigits {
			return sight{}, api.ErrSize
		}
	}
	s := sight{Grid: g, measures: make([]measure, len(l))}
	values := make([]*big.Rat, len(l))
	for i, m := range l {
		r, e := rowOf(g, m)
		if e != api.OK {
			return sight{}, e
		}
		if values[i], e = grid.Number(m.Value); e != api.OK {
			return sight{}, e
		}
		s.measures[i] = measure{place: i, row: filled(len(g.Asked), r), weight: big.NewInt(int64(m.Weight))}
	}
	whole, unit := grid.Whole(values)
	for i := range s.measures {
		s.measures[i].value = whole[i]
	}
	s.unit = unit
	return s, api.OK
}

// rowOf a measure of some kind, at something that is there, of some weight.
func rowOf(g grid.Grid, m api.Measure) (row, api.Errno) {
	count := len(g.Net.Buses) // of what can be measured like this
	var r row
	switch m.Kind {
	case api.OfFlow:
		count = len(g.Net.Lines)
		r = func(angle int) int { return g.Over(m.At, angle) }
	case api.OfFeed:
		r = func(angle int) int { return g.From(m.At, angle) }
	case api.OfAngle:
		r = func(angle int) int {
			if g.Row[m.At] == angle {
				return 1
			}
			return 0
		}
	default:
		return nil, api.ErrKind
	}
	if m.At < 0 || m.At >= count || m.Weight < 1 || m.Weight > api.MaxWeight {
		return nil, api.ErrRange
	}
	return r, api.OK
}

func filled(angles int, r row) []*big.Int {
	l := make([]*big.Int, angles)
	for a := range l {
		l[a] = big.NewInt(int64(r(a)))
	}
	return l
}

// without one of the measures; the sight that had it stays as it is.
func (s sight) without(at int) sight {
	s.measures = slices.Delete(slices.Clone(s.measures), at, at+1)
	return s
}
