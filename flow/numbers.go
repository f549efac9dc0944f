package flow

import (
	"math/big"

	"gridworks/api"
	"gridworks/grid"
)

// numbers: so many, in form. All sizes are looked at first, since any ErrSize goes ahead of any ErrForm.
func numbers(count int, l []string) ([]*big.Rat, api.Errno) {
	if len(l) != count {
		return nil, api.ErrSize
	}
	for _, s := range l {
		if len(s) > api.MaxDigits {
			return nil, api.ErrSize
		}
	}
	read := make([]*big.Rat, count)
	for i, s := range l {
		x, e := grid.Number(s)
		if e != api.OK {
			return nil, e
		}
		read[i] = x
	}
	return read, api.OK
}

// together: so many sums, each of the numbers that belong to it; those that belong to none are left out.
func together(count int, to []int, l []*big.Rat) []*big.Rat {
	sums := make([]*big.Rat, count)
	for i := range sums {
		sums[i] = new(big.Rat)
	}
	for i, x := range l {
		if to[i] != grid.None {
			sums[to[i]].Add(sums[to[i]], x)
		}
	}
	return sums
}
